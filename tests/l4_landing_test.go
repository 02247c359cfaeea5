package tests

import (
	"math"
	"slices"
	"testing"

	"loop.example/g01374/impl"
)

// house returns the house with a text that is known to tell one.
func house(t *testing.T, text string) impl.House {
	t.Helper()
	h, ok := impl.ParseHouse(text)
	if !ok {
		t.Fatalf("ParseHouse(%q) fails", text)
	}
	return h
}

func built(stairs []int, doors []int) impl.House { return impl.House{Stairs: stairs, Doors: doors} }

// high returns a house of MaxFloors, with so many steps and doors everywhere.
func high(steps int, doors int) impl.House {
	return built(slices.Repeat([]int{steps}, impl.MaxFloors-1), slices.Repeat([]int{doors}, impl.MaxFloors))
}

// oddHouses returns values of which none is a house.
func oddHouses() []impl.House {
	return []impl.House{
		{}, built([]int{}, []int{}), built(nil, []int{1}), built(nil, []int{1, 1}), built([]int{1}, nil), built([]int{1}, []int{1}),
		built([]int{1, 1}, []int{1, 1}), built([]int{1}, []int{1, 1, 1}), built([]int{1, 1, 1}, []int{1, 1}),
		built([]int{0}, []int{1, 1}), built([]int{-1}, []int{1, 1}), built([]int{impl.MaxBetween + 1}, []int{1, 1}),
		built([]int{math.MinInt}, []int{1, 1}), built([]int{math.MaxInt}, []int{1, 1}), built([]int{math.MaxInt, math.MinInt}, []int{1, 1, 1}),
		built([]int{5, 0, 5}, []int{1, 1, 1, 1}), built([]int{5, 5, 41}, []int{1, 1, 1, 1}),
		built([]int{1}, []int{-1, 1}), built([]int{1}, []int{1, -1}), built([]int{1}, []int{impl.MaxDoors + 1, 1}), built([]int{1}, []int{1, 21}),
		built([]int{1}, []int{math.MinInt, math.MaxInt}), built([]int{1, 1}, []int{2, math.MaxInt, 2}), built([]int{1, 1}, []int{-1, 2, -1}),
		built(slices.Repeat([]int{1}, impl.MaxFloors), slices.Repeat([]int{1}, impl.MaxFloors+1)),
		built(slices.Repeat([]int{1}, impl.MaxFloors), slices.Repeat([]int{1}, impl.MaxFloors)),
		built(slices.Repeat([]int{1}, 99999), slices.Repeat([]int{1}, 100000)),
	}
}

// wantHouse holds a house against a text, and wants the call to fail if the text is empty.
func wantHouse(t *testing.T, what string, got impl.House, ok bool, want string) {
	t.Helper()
	if want == "" {
		if ok || len(got.Stairs) != 0 || len(got.Doors) != 0 {
			t.Errorf("%s: got %v, %v, want it to fail", what, got, ok)
		}
		return
	}
	text, fine := impl.HouseText(got)
	if !ok || !fine || text != want {
		t.Errorf("%s: got %v, %v, want %s", what, got, ok, want)
	}
}

func TestIsHouse(t *testing.T) {
	if impl.MaxFloors != 12 || impl.MaxBetween != 40 || impl.MaxDoors != 20 {
		t.Error("other limits than the document's")
	}
	for _, h := range []impl.House{
		built([]int{1}, []int{0, 0}), built([]int{40}, []int{20, 20}), built([]int{10, 8}, []int{2, 3, 1}),
		high(1, 0), high(40, 20), built([]int{3, 1, 40}, []int{0, 20, 0, 1}),
	} {
		if !impl.IsHouse(h) {
			t.Errorf("%v is a house", h)
		}
	}
	for _, h := range oddHouses() {
		if impl.IsHouse(h) {
			t.Errorf("%v is no house", h)
		}
	}
}

func TestExampleOfLandings(t *testing.T) {
	h := house(t, "2^10:3^8:1")
	if !slices.Equal(h.Stairs, []int{10, 8}) || !slices.Equal(h.Doors, []int{2, 3, 1}) {
		t.Error("parsed", h)
	}
	n, ok := impl.StepsTo(h, 2)
	wantNumber(t, "steps to", n, ok, 18)
	wantTwo(t, "floor of step", tell(impl.FloorOfStep(h, 12)), 1, 2)
	n, ok = impl.LandingsNeeded(h, 4)
	wantNumber(t, "landings needed", n, ok, 3)
	list, ok := impl.LandingsAt(h, 4)
	wantList(t, "landings at", list, ok, 4, 8, 14)
	n, ok = impl.FloorOfDoor(h, 4)
	wantNumber(t, "floor of door", n, ok, 1)
	wantTwo(t, "doors of floor", tell(impl.DoorsOfFloor(h, 1)), 3, 5)
	n, ok = impl.WalkToDoors(h, []int{6, 3})
	wantNumber(t, "walk", n, ok, 36)
	n, ok = impl.WalkToDoors(h, []int{3, 6, 4})
	wantNumber(t, "walk", n, ok, 36)
	n, ok = impl.WalkToDoors(h, []int{6, 1, 3})
	wantNumber(t, "walk", n, ok, 56)
	n, ok = impl.LeastWalk(h, []int{6, 1, 3})
	wantNumber(t, "least walk", n, ok, 36)
	list, ok = impl.FirstLeastWalk(h, []int{6, 1, 3})
	wantList(t, "first least walk", list, ok, 1, 3, 6)
	wantTwo(t, "meet floor", tell(impl.MeetFloor(h, []int{1, 2, 6})), 0, 18)
	wantTwo(t, "middle floor", tell(impl.MiddleFloor(h)), 1, 18)
	text, ok := impl.HouseText(h)
	if !ok || text != "2^10:3^8:1" {
		t.Error("text", text, ok)
	}
}

func TestOrdinaryHouse(t *testing.T) {
	h := house(t, "1^7:2^15:4^7:3")
	for floor, want := range []int{0, 7, 22, 29} {
		n, ok := impl.StepsTo(h, floor)
		wantNumber(t, "steps to", n, ok, want)
	}
	n, ok := impl.StepsBetween(h, 1, 3)
	wantNumber(t, "steps between", n, ok, 22)
	n, ok = impl.StepsBetween(h, 3, 1)
	wantNumber(t, "steps between", n, ok, 22)
	n, ok = impl.StepsBetween(h, 2, 2)
	wantNumber(t, "steps between", n, ok, 0)
	wantTwo(t, "longest stairs", tell(impl.LongestStairs(h)), 1, 15)
	n, ok = impl.DoorsInHouse(h)
	wantNumber(t, "doors", n, ok, 10)
	list, ok := impl.StairsAbove(h, 7)
	wantList(t, "stairs above 7", list, ok, 1)
	list, ok = impl.StairsAbove(h, 6)
	wantList(t, "stairs above 6", list, ok, 0, 1, 2)
	list, ok = impl.StairsAbove(h, 15)
	wantList(t, "stairs above 15", list, ok)
	lower, ok := impl.DropFloor(h)
	wantHouse(t, "dropped", lower, ok, "1^7:2^15:4")
	higher, ok := impl.AddFloor(h, 9, 5)
	wantHouse(t, "added", higher, ok, "1^7:2^15:4^7:3^9:5")
	list, ok = impl.LandingsAt(h, 7)
	wantList(t, "landings at", list, ok, 14, 21)
	n, ok = impl.LandingsNeeded(h, 15)
	wantNumber(t, "landings needed", n, ok, 0)
	n, ok = impl.WalkToDoors(h, []int{8, 1, 4, 2})
	wantNumber(t, "walk", n, ok, 29+29+22+15+7)
	n, ok = impl.LeastWalk(h, []int{8, 1, 4, 2})
	wantNumber(t, "least walk", n, ok, 58)
	wantTwo(t, "meet floor", tell(impl.MeetFloor(h, []int{1, 2, 8, 10, 4})), 2, 22+15+7+7)
}

func TestFloorsWithoutDoors(t *testing.T) {
	h := house(t, "0^4:2^5:0^1:0^6:3^2:0")
	for floor, want := range []told{{}, {1, 2, true}, {}, {}, {3, 5, true}, {}} {
		if got := tell(impl.DoorsOfFloor(h, floor)); got != want {
			t.Errorf("doors of floor %d: got %v, want %v", floor, got, want)
		}
	}
	for door, want := range []int{1, 1, 4, 4, 4} {
		n, ok := impl.FloorOfDoor(h, door+1)
		wantNumber(t, "floor of door", n, ok, want)
	}
	for _, door := range []int{0, 6} {
		n, ok := impl.FloorOfDoor(h, door)
		wantNoNumber(t, "floor of door", n, ok)
	}
	n, ok := impl.LeastWalk(h, []int{5, 1})
	wantNumber(t, "least walk", n, ok, 32)
	// Of the floors from 1 to 4, on which one meets equally well, the lowest one counts; the middle floor may be without a door.
	wantTwo(t, "meet floor", tell(impl.MeetFloor(h, []int{2, 4})), 1, 12)
	wantTwo(t, "middle floor", tell(impl.MiddleFloor(h)), 2, 9+5+0+1+7+9)

	empty := house(t, "0^3:0^3:0")
	n, ok = impl.DoorsInHouse(empty)
	wantNumber(t, "doors", n, ok, 0)
	n, ok = impl.FloorOfDoor(empty, 1)
	wantNoNumber(t, "floor of door", n, ok)
	n, ok = impl.WalkToDoors(empty, []int{1})
	wantNoNumber(t, "walk", n, ok)
	wantTwo(t, "middle floor", tell(impl.MiddleFloor(empty)), 1, 6)
	n, ok = impl.StepsTo(empty, 2)
	wantNumber(t, "steps to", n, ok, 6)
	higher, ok := impl.AddFloor(empty, 1, 0)
	wantHouse(t, "added", higher, ok, "0^3:0^3:0^1:0")
}

func TestHouseOfTwoFloors(t *testing.T) {
	h := house(t, "1^6:2")
	lower, ok := impl.DropFloor(h)
	wantHouse(t, "dropped", lower, ok, "")
	higher, ok := impl.AddFloor(h, 40, 20)
	wantHouse(t, "added", higher, ok, "1^6:2^40:20")
	lower, ok = impl.DropFloor(higher)
	wantHouse(t, "dropped", lower, ok, "1^6:2")
	wantTwo(t, "longest stairs", tell(impl.LongestStairs(h)), 0, 6)
	wantTwo(t, "middle floor", tell(impl.MiddleFloor(h)), 0, 6)
	wantTwo(t, "meet floor", tell(impl.MeetFloor(h, []int{1, 2, 3})), 1, 6)
	wantTwo(t, "meet floor", tell(impl.MeetFloor(h, []int{3})), 1, 0)
	n, ok := impl.StepsTo(h, 1)
	wantNumber(t, "steps to", n, ok, 6)
	n, ok = impl.StepsTo(h, 2)
	wantNoNumber(t, "steps to", n, ok)
}

func TestHouseWithStairsOfOneStep(t *testing.T) {
	h := house(t, "1^1:1^1:1")
	for most := 1; most <= impl.MaxBetween; most++ {
		n, ok := impl.LandingsNeeded(h, most)
		wantNumber(t, "landings needed", n, ok, 0)
		list, ok := impl.LandingsAt(h, most)
		wantList(t, "landings at", list, ok)
	}
	wantTwo(t, "floor of step", tell(impl.FloorOfStep(h, 1)), 0, 1)
	wantTwo(t, "floor of step", tell(impl.FloorOfStep(h, 2)), 1, 1)
	wantTwo(t, "longest stairs", tell(impl.LongestStairs(h)), 0, 1)
	list, ok := impl.StairsAbove(h, 0)
	wantList(t, "stairs above 0", list, ok, 0, 1)
	list, ok = impl.StairsAbove(h, 1)
	wantList(t, "stairs above 1", list, ok)
}

// The last step of stairs is a floor: it belongs to the stairs that lead to it, and is no landing.
func TestLastStepOfStairs(t *testing.T) {
	h := house(t, "2^10:3^8:1")
	wantTwo(t, "floor of step", tell(impl.FloorOfStep(h, 1)), 0, 1)
	wantTwo(t, "floor of step", tell(impl.FloorOfStep(h, 10)), 0, 10)
	wantTwo(t, "floor of step", tell(impl.FloorOfStep(h, 11)), 1, 1)
	wantTwo(t, "floor of step", tell(impl.FloorOfStep(h, 18)), 1, 8)
	wantNotTwo(t, "floor of step", tell(impl.FloorOfStep(h, 0)))
	wantNotTwo(t, "floor of step", tell(impl.FloorOfStep(h, 19)))
	list, ok := impl.LandingsAt(h, 5)
	wantList(t, "landings at", list, ok, 5, 15)
	list, ok = impl.LandingsAt(h, 2)
	wantList(t, "landings at", list, ok, 2, 4, 6, 8, 12, 14, 16)
	list, ok = impl.LandingsAt(h, 8)
	wantList(t, "landings at", list, ok, 8)
	list, ok = impl.LandingsAt(h, 9)
	wantList(t, "landings at", list, ok, 9)
	list, ok = impl.LandingsAt(h, 10)
	wantList(t, "landings at", list, ok)
	list, ok = impl.LandingsAt(h, 1)
	wantList(t, "landings at", list, ok, 1, 2, 3, 4, 5, 6, 7, 8, 9, 11, 12, 13, 14, 15, 16, 17)
}

func TestSeveralEquallyGood(t *testing.T) {
	h := house(t, "2^5:2^5:2^5:2")
	wantTwo(t, "longest stairs", tell(impl.LongestStairs(h)), 0, 5)
	wantTwo(t, "longest stairs", tell(impl.LongestStairs(house(t, "0^3:0^9:0^9:0"))), 1, 9)
	wantTwo(t, "middle floor", tell(impl.MiddleFloor(h)), 1, 20)
	wantTwo(t, "meet floor", tell(impl.MeetFloor(h, []int{1, 8})), 0, 15)
	wantTwo(t, "meet floor", tell(impl.MeetFloor(h, []int{7, 5, 3, 1})), 1, 20)
	wantTwo(t, "meet floor", tell(impl.MeetFloor(h, []int{8, 5})), 2, 5)
	// All orders that go up once and down once are as long.
	for _, order := range [][]int{{1, 3, 5, 7}, {7, 5, 3, 1}, {3, 7, 5, 1}, {1, 5, 7, 3}} {
		n, ok := impl.WalkToDoors(h, order)
		wantNumber(t, "walk", n, ok, 30)
		n, ok = impl.LeastWalk(h, order)
		wantNumber(t, "least walk", n, ok, 30)
		list, ok := impl.FirstLeastWalk(h, order)
		wantList(t, "first least walk", list, ok, 1, 3, 5, 7)
	}
	// On one floor nothing is walked between doors.
	list, ok := impl.FirstLeastWalk(h, []int{6, 5})
	wantList(t, "first least walk", list, ok, 5, 6)
}

func TestWalksOnTheGround(t *testing.T) {
	h := house(t, "3^5:1")
	for _, doors := range [][]int{{1}, {2, 3, 1}} {
		n, ok := impl.WalkToDoors(h, doors)
		wantNumber(t, "walk", n, ok, 0)
		n, ok = impl.LeastWalk(h, doors)
		wantNumber(t, "least walk", n, ok, 0)
		wantTwo(t, "meet floor", tell(impl.MeetFloor(h, doors)), 0, 0)
	}
}

// A door may be asked for more than once: two people come from one door, a postman comes back to it.
func TestDoorsThatStandTwice(t *testing.T) {
	h := house(t, "2^10:3^8:1")
	n, ok := impl.WalkToDoors(h, []int{6, 1, 6})
	wantNumber(t, "walk", n, ok, 72)
	n, ok = impl.LeastWalk(h, []int{6, 1, 6})
	wantNumber(t, "least walk", n, ok, 36)
	list, ok := impl.FirstLeastWalk(h, []int{6, 1, 6})
	wantList(t, "first least walk", list, ok, 1, 6, 6)
	wantTwo(t, "meet floor", tell(impl.MeetFloor(h, []int{6, 1, 6})), 2, 18)
}
