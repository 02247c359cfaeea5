package tests

import (
	"math"
	"slices"
	"strings"
	"testing"

	"loop.example/g01374/impl"
)

func TestHouseOfMaxFloors(t *testing.T) {
	h := high(40, 20)
	for floor := range impl.MaxFloors {
		n, ok := impl.StepsTo(h, floor)
		wantNumber(t, "steps to", n, ok, 40*floor)
		n, ok = impl.StepsBetween(h, 11, floor)
		wantNumber(t, "steps between", n, ok, 40*(11-floor))
		wantTwo(t, "doors of floor", tell(impl.DoorsOfFloor(h, floor)), 20*floor+1, 20*floor+20)
	}
	n, ok := impl.DoorsInHouse(h)
	wantNumber(t, "doors", n, ok, 240)
	n, ok = impl.FloorOfDoor(h, 240)
	wantNumber(t, "floor of door", n, ok, 11)
	n, ok = impl.FloorOfDoor(h, 241)
	wantNoNumber(t, "floor of door", n, ok)
	wantTwo(t, "floor of step", tell(impl.FloorOfStep(h, 440)), 10, 40)
	wantNotTwo(t, "floor of step", tell(impl.FloorOfStep(h, 441)))
	wantTwo(t, "longest stairs", tell(impl.LongestStairs(h)), 0, 40)
	wantTwo(t, "middle floor", tell(impl.MiddleFloor(h)), 5, 40*(15+21))
	higher, ok := impl.AddFloor(h, 1, 1)
	wantHouse(t, "added", higher, ok, "")
	lower, ok := impl.DropFloor(h)
	wantHouse(t, "dropped", lower, ok, "20"+strings.Repeat("^40:20", 10))
	higher, ok = impl.AddFloor(lower, 40, 20)
	wantHouse(t, "added", higher, ok, "20"+strings.Repeat("^40:20", 11))
}

func TestLandingsAtTheLimits(t *testing.T) {
	h := high(40, 0)
	for most, each := range map[int]int{1: 39, 2: 19, 3: 13, 7: 5, 13: 3, 19: 2, 20: 1, 39: 1, 40: 0} {
		n, ok := impl.LandingsNeeded(h, most)
		wantNumber(t, "landings needed", n, ok, 11*each)
		list, ok := impl.LandingsAt(h, most)
		wantNumber(t, "landings at", len(list), ok, 11*each)
	}
	list, ok := impl.LandingsAt(house(t, "0^39:0^40:0^1:0^20:0"), 39)
	wantList(t, "landings at", list, ok, 78)
	for _, most := range []int{math.MinInt, -1, 0, impl.MaxBetween + 1, math.MaxInt} {
		n, ok := impl.LandingsNeeded(h, most)
		wantNoNumber(t, "landings needed", n, ok)
		list, ok := impl.LandingsAt(h, most)
		wantNoList(t, "landings at", list, ok)
	}
	list, ok = impl.StairsAbove(h, 39)
	wantList(t, "stairs above", list, ok, 0, 1, 2, 3, 4, 5, 6, 7, 8, 9, 10)
	list, ok = impl.StairsAbove(h, 40)
	wantList(t, "stairs above", list, ok)
	for _, steps := range []int{math.MinInt, -1, impl.MaxBetween + 1, math.MaxInt} {
		list, ok = impl.StairsAbove(h, steps)
		wantNoList(t, "stairs above", list, ok)
	}
}

// As many doors as may be asked for, and one more.
func TestListsOfDoorsAtTheLimit(t *testing.T) {
	h := high(40, 20)
	far := slices.Repeat([]int{240, 1}, 10)
	n, ok := impl.WalkToDoors(h, far)
	wantNumber(t, "walk", n, ok, 440*20)
	n, ok = impl.LeastWalk(h, far)
	wantNumber(t, "least walk", n, ok, 880)
	list, ok := impl.FirstLeastWalk(h, far)
	wantList(t, "first least walk", list, ok, append(slices.Repeat([]int{1}, 10), slices.Repeat([]int{240}, 10)...)...)
	wantTwo(t, "meet floor", tell(impl.MeetFloor(h, far)), 0, 4400)
	all := upTo(20)
	slices.Reverse(all)
	list, ok = impl.FirstLeastWalk(h, all)
	wantList(t, "first least walk", list, ok, upTo(20)...)
	wantNoWalk(t, h, append(far, 1))
	wantNoWalk(t, h, upTo(21))
}

// wantNoWalk wants all functions to which doors are given to fail.
func wantNoWalk(t *testing.T, h impl.House, doors []int) {
	t.Helper()
	n, ok := impl.WalkToDoors(h, doors)
	wantNoNumber(t, "walk", n, ok)
	n, ok = impl.LeastWalk(h, doors)
	wantNoNumber(t, "least walk", n, ok)
	list, ok := impl.FirstLeastWalk(h, doors)
	wantNoList(t, "first least walk", list, ok)
	wantNotTwo(t, "meet floor", tell(impl.MeetFloor(h, doors)))
}

func TestDoorsThatAreNot(t *testing.T) {
	h := house(t, "2^10:3^8:1")
	for _, doors := range [][]int{
		nil, {}, {0}, {-1}, {7}, {1, 7}, {7, 1}, {1, 0, 2}, {1, 2, 3, 4, 5, 6, 7}, {math.MinInt}, {math.MaxInt}, {math.MaxInt, math.MinInt}, make([]int, 100000),
	} {
		wantNoWalk(t, h, doors)
	}
	for _, door := range []int{math.MinInt, -1, 0, 7, math.MaxInt} {
		n, ok := impl.FloorOfDoor(h, door)
		wantNoNumber(t, "floor of door", n, ok)
	}
}

func TestFloorsAndStepsThatAreNot(t *testing.T) {
	h := house(t, "2^10:3^8:1")
	for _, floor := range []int{math.MinInt, math.MinInt + 1, -1, 3, 12, math.MaxInt} {
		n, ok := impl.StepsTo(h, floor)
		wantNoNumber(t, "steps to", n, ok)
		n, ok = impl.StepsBetween(h, floor, 1)
		wantNoNumber(t, "steps between", n, ok)
		n, ok = impl.StepsBetween(h, 1, floor)
		wantNoNumber(t, "steps between", n, ok)
		n, ok = impl.StepsBetween(h, floor, floor)
		wantNoNumber(t, "steps between", n, ok)
		wantNotTwo(t, "doors of floor", tell(impl.DoorsOfFloor(h, floor)))
	}
	for _, step := range []int{math.MinInt, -1, 0, 19, math.MaxInt} {
		wantNotTwo(t, "floor of step", tell(impl.FloorOfStep(h, step)))
	}
}

func TestFloorsThatCannotBeAdded(t *testing.T) {
	h := house(t, "2^10:3^8:1")
	for _, steps := range []int{math.MinInt, -1, 0, impl.MaxBetween + 1, math.MaxInt} {
		higher, ok := impl.AddFloor(h, steps, 1)
		wantHouse(t, "added", higher, ok, "")
	}
	for _, doors := range []int{math.MinInt, -1, impl.MaxDoors + 1, math.MaxInt} {
		higher, ok := impl.AddFloor(h, 1, doors)
		wantHouse(t, "added", higher, ok, "")
	}
	for _, more := range [][2]int{{1, 0}, {1, 20}, {40, 0}, {40, 20}} {
		higher, ok := impl.AddFloor(h, more[0], more[1])
		if !ok || !slices.Equal(higher.Stairs, []int{10, 8, more[0]}) || !slices.Equal(higher.Doors, []int{2, 3, 1, more[1]}) {
			t.Error("added", more, higher, ok)
		}
	}
}

func TestTextsOfHouses(t *testing.T) {
	for text, want := range map[string]impl.House{
		"2^10:3^8:1": built([]int{10, 8}, []int{2, 3, 1}), "0^1:0": built([]int{1}, []int{0, 0}), "20^40:20": built([]int{40}, []int{20, 20}),
		"20" + strings.Repeat("^40:20", 11): high(40, 20), "0" + strings.Repeat("^1:0", 11): high(1, 0),
	} {
		h, ok := impl.ParseHouse(text)
		if !ok || !slices.Equal(h.Stairs, want.Stairs) || !slices.Equal(h.Doors, want.Doors) {
			t.Errorf("%s: got %v, %v", text, h, ok)
		}
		again, ok := impl.HouseText(want)
		if !ok || again != text {
			t.Errorf("%v: got %q, %v, want %q", want, again, ok, text)
		}
	}
	for _, h := range oddHouses() {
		if text, ok := impl.HouseText(h); ok || text != "" {
			t.Errorf("%v has the text %q, %v", h, text, ok)
		}
	}
	for _, text := range oddHouseTexts() {
		h, ok := impl.ParseHouse(text)
		wantHouse(t, text, h, ok, "")
	}
}

// oddHouseTexts returns texts of which none tells a house.
func oddHouseTexts() []string {
	return []string{
		"", "^", ":", "^:", "2", "2^", "2^10", "2^10:", "2^:3", "^10:3", "2^10:3^", "2^10:3^8", "2^10:3^8:", "2^10:3:8", "2:10^3", "2:10:3", "2^10^3",
		"2:3^10:3", "2^10:3:", "2^^10:3", "2^10::3", "^2^10:3", "2^10:3^^8:1", "02^10:3", "2^010:3", "2^10:03", "2^10:00", "+2^10:3", "2^+10:3", "-2^10:3",
		"2^-10:3", "2^10:-3", "-0^10:3", " 2^10:3", "2^10:3 ", "2 ^10:3", "2^10:3\n", "2^10;3", "2v10:3", "2_0^10:3", "2^1_0:3", "x^10:3", "2^x:3", "2^10:x",
		"21^10:3", "2^0:3", "2^41:3", "2^10:21", "2^10:3^0:1", "2^10:3^8:21", "18446744073709551618^10:3", "2^18446744073709551626:3", "99999999999999999999^10:3",
		"٢^10:3", "2^10:3\x00", "\xff", "0" + strings.Repeat("^1:0", 12), "0" + strings.Repeat("^1:0", 100000),
		strings.Repeat("^", 100000), strings.Repeat(":", 100000), "2^" + strings.Repeat("1:", 100000), strings.Repeat("1", 100000) + "^1:1",
	}
}
