package tests

import (
	"math"
	"slices"
	"testing"

	"loop.example/g01374/impl"
)

// bears returns the bears with a text that is known to tell some.
func bears(t *testing.T, text string) []int {
	t.Helper()
	b, ok := impl.ParseBears(text)
	if !ok {
		t.Fatalf("ParseBears(%q) fails", text)
	}
	return b
}

// oddBears returns lists of which none are bears.
func oddBears() [][]int {
	return [][]int{
		nil, {}, {-1}, {impl.MaxBear + 1}, {0, 0, -1}, {-1, 5, 5}, {5, 101, 5}, {math.MaxInt}, {math.MinInt},
		{math.MinInt, math.MaxInt}, {3, math.MaxInt, 3}, make([]int, impl.MaxWorn+1), slices.Repeat([]int{100}, 1000),
	}
}

func TestAreBears(t *testing.T) {
	for _, b := range [][]int{{0}, {1}, {100}, {3, 0, 2, 1}, make([]int, 20), slices.Repeat([]int{impl.MaxBear}, impl.MaxWorn)} {
		if !impl.AreBears(b) {
			t.Errorf("%v are bears", b)
		}
	}
	for _, b := range oddBears() {
		if impl.AreBears(b) {
			t.Errorf("%v are no bears", b)
		}
	}
}

func TestExampleOfWear(t *testing.T) {
	b := bears(t, "3-0-2-1")
	list, ok := impl.PartsOfBears(b, 2)
	wantList(t, "parts", list, ok, 3, 2, 3)
	n, ok := impl.MostWears(b, 2)
	wantNumber(t, "most", n, ok, 2)
	n, feet, ok := impl.WeakestPart(b, 2)
	wantNumber(t, "weakest", n, ok, 2)
	wantNumber(t, "feet of the weakest", feet, ok, 2)
	list, ok = impl.FirstWearClimb(b, 2)
	wantList(t, "first", list, ok, 1, 3)
	n, ok = impl.CountWearClimbs(b, 2)
	wantNumber(t, "count", n, ok, 2)
	n, ok = impl.MendSum(b, 2, 4)
	wantNumber(t, "mend", n, ok, 2)
	list, ok = impl.LateMend(b, 2, 4)
	wantList(t, "late", list, ok, 3, 1, 3, 1)
	list, ok = impl.PartsOfBears(list, 2)
	wantList(t, "parts behind the mend", list, ok, 4, 4, 4)
	list, ok = impl.IdleBears(b, 2)
	wantList(t, "idle", list, ok, 2, 4)
	days, left, ok := impl.DaysOfWear(b, 2, 1)
	wantNumber(t, "days", days, ok, 2)
	wantNumber(t, "left", left, ok, 0)
}

func TestMoreOfTheExample(t *testing.T) {
	b := bears(t, "3-0-2-1")
	list, ok := impl.WearBy(b, 2, []int{1, 3})
	wantList(t, "worn", list, ok, 2, 0, 1, 1)
	list, ok = impl.WearBy(b, 2, []int{1, 3, 4})
	wantList(t, "worn", list, ok, 2, 0, 1, 0)
	list, ok = impl.WearAll(b, 2, [][]int{{1, 3, 4}, {1, 3}})
	wantList(t, "worn twice", list, ok, 1, 0, 0, 0)
	n, ok := impl.FewestOnWear(b, 2)
	wantNumber(t, "fewest", n, ok, 2)
	n, ok = impl.FewestOnWear(b, 3)
	wantNumber(t, "fewest by 3", n, ok, 1)
	n, ok = impl.StrongestStep(b)
	wantNumber(t, "strongest", n, ok, 1)
	step, most, ok := impl.WorstStepToLose(b, 2)
	wantNumber(t, "worst", step, ok, 1)
	wantNumber(t, "most without the worst", most, ok, 0)
	list, ok = impl.TurnBears(b)
	wantList(t, "turned", list, ok, 1, 2, 0, 3)
	for climbs, want := range []int{1, 2, 2, 3, 4, 4, 4, 5, 5} {
		n, ok := impl.ReachForWears(b, climbs)
		wantNumber(t, "reach", n, ok, want)
	}
}

func TestIsWearClimb(t *testing.T) {
	b := bears(t, "3-0-2-1")
	for _, climb := range [][]int{{1, 3}, {1, 3, 4}} {
		if is, ok := impl.IsWearClimb(b, 2, climb); !is || !ok {
			t.Errorf("%v is a climb: got %v, %v", climb, is, ok)
		}
	}
	for _, climb := range oddWearClimbs() {
		if is, ok := impl.IsWearClimb(b, 2, climb); is || !ok {
			t.Errorf("%v is no climb: got %v, %v", climb, is, ok)
		}
		list, ok := impl.WearBy(b, 2, climb)
		wantNoList(t, "worn", list, ok)
		list, ok = impl.WearAll(b, 2, [][]int{{1, 3}, climb})
		wantNoList(t, "worn", list, ok)
	}
}

// oddWearClimbs returns lists of which none is a climb of 3-0-2-1 with a reach of 2.
func oddWearClimbs() [][]int {
	return [][]int{
		nil, {}, {1}, {3}, {1, 2, 3}, {2, 3}, {2, 4}, {1, 4}, {1, 3, 5}, {1, 3, 4, 5}, {1, 3, 4, 6}, {0, 1, 3}, {1, 1, 3},
		{1, 3, 3}, {3, 1}, {1, 3, 1}, {-1, 1, 3}, {1, 3, -4}, {math.MaxInt}, {math.MinInt}, {1, 3, math.MaxInt},
		{1, 3, math.MinInt}, {math.MinInt, math.MaxInt}, make([]int, 100), slices.Repeat([]int{1}, 100), upTo(100),
	}
}

func TestWearAll(t *testing.T) {
	list, ok := impl.WearAll([]int{2, 0, 1}, 2, nil)
	wantList(t, "no climb", list, ok, 2, 0, 1)
	list, ok = impl.WearAll([]int{2, 0, 1}, 2, [][]int{{1, 3}, {1, 3}})
	wantNoList(t, "the step 3 has worn off", list, ok)
	list, ok = impl.WearAll([]int{100}, 1, slices.Repeat([][]int{{1}}, 100))
	wantList(t, "all worn off", list, ok, 0)
	list, ok = impl.WearAll([]int{99}, 1, slices.Repeat([][]int{{1}}, 100))
	wantNoList(t, "one foot too few", list, ok)
	// Climbs that pass by all steps wear nothing, so that only their number is too great.
	list, ok = impl.WearAll([]int{7}, 2, make([][]int, 100))
	wantList(t, "most climbs", list, ok, 7)
	list, ok = impl.WearAll([]int{7}, 2, make([][]int, 101))
	wantNoList(t, "too many climbs", list, ok)
}

func TestStepsThatBearNoFoot(t *testing.T) {
	none := make([]int, 5)
	for reach := 1; reach <= 5; reach++ {
		n, ok := impl.MostWears(none, reach)
		wantNumber(t, "most", n, ok, 0)
		part, feet, ok := impl.WeakestPart(none, reach)
		wantNumber(t, "weakest", part, ok, 1)
		wantNumber(t, "feet of the weakest", feet, ok, 0)
		list, ok := impl.IdleBears(none, reach)
		wantList(t, "idle", list, ok, 1, 2, 3, 4, 5)
		days, left, ok := impl.DaysOfWear(none, reach, 3)
		wantNumber(t, "days", days, ok, 0)
		wantNumber(t, "left", left, ok, 0)
		step, most, ok := impl.WorstStepToLose(none, reach)
		wantNumber(t, "worst", step, ok, 1)
		wantNumber(t, "most without", most, ok, 0)
		list, ok = impl.FirstWearClimb(none, reach)
		wantNoList(t, "first", list, ok)
		n, ok = impl.FewestOnWear(none, reach)
		wantNoNumber(t, "fewest", n, ok)
		n, ok = impl.CountWearClimbs(none, reach)
		wantNumber(t, "count", n, ok, 0)
		list, ok = impl.LateMend(none, reach, 2)
		wantNumber(t, "mended", len(list), ok, 5)
		wantNumber(t, "mended on the last of the part", list[reach-1], ok, 2)
	}
	n, ok := impl.StrongestStep(none)
	wantNumber(t, "strongest", n, ok, 1)
	n, ok = impl.ReachForWears(none, 0)
	wantNumber(t, "reach for none", n, ok, 1)
	n, ok = impl.ReachForWears(none, 1)
	wantNumber(t, "reach for one", n, ok, 6)
}

func TestReachGreaterThanTheSteps(t *testing.T) {
	b := bears(t, "1-0-2")
	for reach := 4; reach <= impl.MaxWorn; reach++ {
		n, ok := impl.MostWears(b, reach)
		wantNoNumber(t, "most", n, ok)
		part, feet, ok := impl.WeakestPart(b, reach)
		wantNoNumber(t, "weakest", part+feet, ok)
		list, ok := impl.PartsOfBears(b, reach)
		wantNoList(t, "parts", list, ok)
		n, ok = impl.MendSum(b, reach, 0)
		wantNoNumber(t, "mend", n, ok)
		list, ok = impl.LateMend(b, reach, 0)
		wantNoList(t, "late", list, ok)
		list, ok = impl.IdleBears(b, reach)
		wantNoList(t, "idle", list, ok)
		days, left, ok := impl.DaysOfWear(b, reach, 1)
		wantNoNumber(t, "days", days+left, ok)
		step, most, ok := impl.WorstStepToLose(b, reach)
		wantNoNumber(t, "worst", step+most, ok)

		list, ok = impl.FirstWearClimb(b, reach)
		wantList(t, "first", list, ok)
		n, ok = impl.CountWearClimbs(b, reach)
		wantNumber(t, "count", n, ok, 4)
		n, ok = impl.FewestOnWear(b, reach)
		wantNumber(t, "fewest", n, ok, 0)
		list, ok = impl.WearBy(b, reach, nil)
		wantList(t, "worn", list, ok, 1, 0, 2)
		list, ok = impl.WearBy(b, reach, []int{3})
		wantList(t, "worn", list, ok, 1, 0, 1)
	}
}

func TestTheFirstOfSeveral(t *testing.T) {
	part, feet, ok := impl.WeakestPart(bears(t, "4-1-2-1-2-9"), 2)
	wantNumber(t, "weakest", part, ok, 2)
	wantNumber(t, "feet of the weakest", feet, ok, 3)
	n, ok := impl.StrongestStep(bears(t, "4-9-2-9-1"))
	wantNumber(t, "strongest", n, ok, 2)
	step, most, ok := impl.WorstStepToLose(bears(t, "5-1-3-3-1-5"), 2)
	wantNumber(t, "worst", step, ok, 1)
	wantNumber(t, "most without", most, ok, 1)
	step, most, ok = impl.WorstStepToLose(bears(t, "5-5-3-3-5-5"), 2)
	wantNumber(t, "worst", step, ok, 2)
	wantNumber(t, "most without", most, ok, 3)
	// 1 ends before 1 2 goes on, and comes before 2.
	list, ok := impl.FirstWearClimb(bears(t, "1-1"), 2)
	wantList(t, "first", list, ok, 1)
	list, ok = impl.FirstWearClimb(bears(t, "1-1-0-1"), 2)
	wantList(t, "first", list, ok, 1, 2, 4)
	list, ok = impl.FirstWearClimb(bears(t, "1-0-0-1"), 2)
	wantNoList(t, "first", list, ok)
	// From 1 the top is not in reach any more, though 1 comes before 2.
	list, ok = impl.FirstWearClimb(bears(t, "1-1-0-0-1"), 3)
	wantList(t, "first", list, ok, 1, 2, 5)
	list, ok = impl.FirstWearClimb(bears(t, "1-0-1-0-0-0-1"), 4)
	wantList(t, "first", list, ok, 1, 3, 7)
	list, ok = impl.FirstWearClimb(bears(t, "1-0-1-0-0-0"), 3)
	wantNoList(t, "first", list, ok)
}

func TestWearOfOneStep(t *testing.T) {
	for _, feet := range []int{0, 1, impl.MaxBear} {
		b := []int{feet}
		n, ok := impl.MostWears(b, 1)
		wantNumber(t, "most", n, ok, feet)
		n, ok = impl.CountWearClimbs(b, 1)
		wantNumber(t, "count", n, ok, min(feet, 1))
		n, ok = impl.CountWearClimbs(b, 2)
		wantNumber(t, "count", n, ok, min(feet, 1)+1)
		n, ok = impl.ReachForWears(b, feet)
		wantNumber(t, "reach", n, ok, 1)
		n, ok = impl.ReachForWears(b, feet+1)
		wantNumber(t, "reach", n, ok, 2)
		n, ok = impl.MendSum(b, 1, 1000)
		wantNumber(t, "mend", n, ok, 1000-feet)
		step, most, ok := impl.WorstStepToLose(b, 1)
		wantNumber(t, "worst", step, ok, 1)
		wantNumber(t, "most without", most, ok, 0)
	}
}
