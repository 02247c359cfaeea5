package tests

import (
	"math"
	"testing"

	"loop.example/g01374/impl"
)

// wearCalls returns the functions of chapter 2 that bears and a reach are given to.
func wearCalls() []named {
	return []named{
		{"IsWearClimb", impl.IsWearClimb},
		{"WearBy", impl.WearBy},
		{"WearAll", impl.WearAll},
		{"MostWears", impl.MostWears},
		{"WeakestPart", impl.WeakestPart},
		{"PartsOfBears", impl.PartsOfBears},
		{"MendSum", impl.MendSum},
		{"LateMend", impl.LateMend},
		{"IdleBears", impl.IdleBears},
		{"FirstWearClimb", impl.FirstWearClimb},
		{"CountWearClimbs", impl.CountWearClimbs},
		{"FewestOnWear", impl.FewestOnWear},
		{"DaysOfWear", impl.DaysOfWear},
		{"WorstStepToLose", impl.WorstStepToLose},
	}
}

// bearsCalls returns those that bears are given to without a reach.
func bearsCalls() []named {
	return []named{
		{"AreBears", impl.AreBears},
		{"ReachForWears", impl.ReachForWears},
		{"StrongestStep", impl.StrongestStep},
		{"TurnBears", impl.TurnBears},
		{"BearsText", impl.BearsText},
	}
}

func wearNumbers() []int {
	return []int{math.MinInt, math.MinInt + 1, -1, 0, 1, 2, 3, 4, 5, 19, 20, 21, 1000, 1001, math.MaxInt - 1, math.MaxInt}
}

func TestNothingWorksWithoutBears(t *testing.T) {
	// All of these are given as bears and as climbs.
	lists := append(oddBears(), make([]int, 100000))
	climbs := [][][]int{nil, {}, {{}}, {{1}}, {nil, nil}}
	wantAllFail(t, append(bearsCalls(), wearCalls()...), lists, climbs, wearNumbers())
	wantAllFail(t, []named{{"ParseBears", impl.ParseBears}}, oddBearsTexts())
}

func TestNothingWorksWithoutReach(t *testing.T) {
	for _, f := range wearCalls() {
		if f.name == "MendSum" || f.name == "LateMend" || f.name == "DaysOfWear" {
			continue
		}
		lists := [][]int{nil, {1}, {1, 2}, {3, 0, 2, 1}, strong()}
		wantAllFail(t, []named{f}, lists, [][][]int{nil, {nil}, {{1}}}, []int{math.MinInt, -1, 0, impl.MaxWorn + 1, math.MaxInt})
	}
	for _, reach := range []int{math.MinInt, -1, 0, impl.MaxWorn + 1, math.MaxInt} {
		n, ok := impl.MendSum(strong(), reach, 3)
		wantNoNumber(t, "mend", n, ok)
		list, ok := impl.LateMend(strong(), reach, 3)
		wantNoList(t, "late", list, ok)
		days, left, ok := impl.DaysOfWear(strong(), reach, 3)
		wantNoNumber(t, "days", days+left, ok)
	}
}

func TestWearCallsAreTotal(t *testing.T) {
	lists := append(oddWearClimbs(), oddBears()...)
	lists = append(lists, []int{3, 0, 2, 1}, []int{1, 3}, []int{1, 3, 4}, []int{0}, []int{2, 2, 2}, make([]int, 20), strong(), upTo(20))
	climbs := [][][]int{nil, {}, {nil}, {{}}, {{1, 3}}, {{1, 3}, {1, 3, 4}}, {{1, 3}, {2}}, {{1}, {math.MinInt, math.MaxInt}}, make([][]int, 100), make([][]int, 101), {upTo(20), upTo(20)}}
	texts := append(oddBearsTexts(), "3-0-2-1", "0", "100")
	holdTotal(t, append(bearsCalls(), wearCalls()...), lists, climbs, wearNumbers())
	holdTotal(t, []named{{"ParseBears", impl.ParseBears}}, texts)
}
