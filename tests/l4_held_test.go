package tests

import (
	"slices"
	"testing"

	"loop.example/g01374/impl"
)

// A drawing tells for the ground and each step which floor it is: -1 if it is a step between floors.
type drawing []int

// drawn draws a house step by step.
func drawn(h impl.House) drawing {
	d := drawing{0}
	for below, steps := range h.Stairs {
		for range steps - 1 {
			d = append(d, -1)
		}
		d = append(d, below+1)
	}
	return d
}

// gone returns how many steps are walked from a floor to another one, one by one.
func (d drawing) gone(from int, to int) int {
	at, steps := slices.Index(d, from), 0
	for d[at] != to {
		if slices.Index(d, to) > at {
			at++
		} else {
			at--
		}
		steps++
	}
	return steps
}

// longest returns the most steps that one goes without a floor or a landing.
func (d drawing) longest(landings []int) int {
	most, gone := 0, 0
	for step := 1; step < len(d); step++ {
		gone++
		most = max(most, gone)
		if d[step] >= 0 || slices.Contains(landings, step) {
			gone = 0
		}
	}
	return most
}

// doorsOf returns for each door its floor.
func doorsOf(h impl.House) []int {
	var floors []int
	for floor, doors := range h.Doors {
		floors = append(floors, slices.Repeat([]int{floor}, doors)...)
	}
	return floors
}

// smallHouses returns all houses of just so many floors, with stairs and doors up to these numbers.
func smallHouses(floors int, steps int, doors int) []impl.House {
	if floors == 0 {
		return []impl.House{{}}
	}
	var all []impl.House
	for _, h := range smallHouses(floors-1, steps, doors) {
		for n := range doors + 1 {
			with := append(slices.Clone(h.Doors), n)
			if floors == 1 {
				all = append(all, built(nil, with))
				continue
			}
			for k := 1; k <= steps; k++ {
				all = append(all, built(append(slices.Clone(h.Stairs), k), with))
			}
		}
	}
	return all
}

// variedHouses returns houses that are too great to try all landings.
func variedHouses() []impl.House {
	return []impl.House{
		high(1, 1), high(40, 20), high(13, 0), built([]int{40, 1}, []int{0, 20, 0}), built([]int{10, 8}, []int{2, 3, 1}),
		built([]int{5, 17, 1, 40, 23, 8, 8, 39, 2, 12, 31}, []int{3, 0, 20, 1, 0, 0, 7, 2, 19, 5, 1, 0}),
		built([]int{31, 1, 2, 3, 4, 5, 6, 7, 8, 9}, []int{0, 0, 0, 1, 1, 1, 2, 2, 2, 20, 4}),
	}
}

func TestAgainstDrawingsOfHouses(t *testing.T) {
	all := slices.Concat(smallHouses(2, 5, 3), smallHouses(3, 3, 2), smallHouses(4, 2, 1), variedHouses())
	for _, h := range all {
		d := drawn(h)
		holdWays(t, h, d)
		holdDoors(t, h)
		holdFloors(t, h)
		holdMiddle(t, h, d)
		if t.Failed() {
			t.Fatalf("house %v", h)
		}
	}
}

func holdWays(t *testing.T, h impl.House, d drawing) {
	for a := range h.Doors {
		n, ok := impl.StepsTo(h, a)
		wantNumber(t, "steps to", n, ok, slices.Index(d, a))
		for b := range h.Doors {
			n, ok := impl.StepsBetween(h, a, b)
			wantNumber(t, "steps between", n, ok, d.gone(a, b))
		}
	}
	floor, above := 0, 0
	for step := 1; step < len(d); step++ {
		above++
		wantTwo(t, "floor of step", tell(impl.FloorOfStep(h, step)), floor, above)
		if d[step] >= 0 {
			floor, above = d[step], 0
		}
	}
	wantNotTwo(t, "floor of step", tell(impl.FloorOfStep(h, 0)))
	wantNotTwo(t, "floor of step", tell(impl.FloorOfStep(h, len(d))))
}

func holdDoors(t *testing.T, h impl.House) {
	floors := doorsOf(h)
	n, ok := impl.DoorsInHouse(h)
	wantNumber(t, "doors", n, ok, len(floors))
	for i, floor := range floors {
		n, ok := impl.FloorOfDoor(h, i+1)
		wantNumber(t, "floor of door", n, ok, floor)
	}
	for _, door := range []int{0, len(floors) + 1} {
		n, ok := impl.FloorOfDoor(h, door)
		wantNoNumber(t, "floor of door", n, ok)
	}
	for floor, doors := range h.Doors {
		got := tell(impl.DoorsOfFloor(h, floor))
		if doors == 0 {
			wantNotTwo(t, "doors of floor", got)
			continue
		}
		first := slices.Index(floors, floor) + 1
		wantTwo(t, "doors of floor", got, first, first+doors-1)
	}
}

func holdFloors(t *testing.T, h impl.House) {
	last := len(h.Stairs)
	text, ok := impl.HouseText(h)
	again, fine := impl.ParseHouse(text)
	wantHouse(t, "parsed", again, ok && fine, text)
	if !slices.Equal(again.Stairs, h.Stairs) || !slices.Equal(again.Doors, h.Doors) {
		t.Errorf("parsed: got %v from %q", again, text)
	}
	lower, ok := impl.DropFloor(h)
	if last == 1 {
		wantHouse(t, "dropped", lower, ok, "")
	} else {
		back, fine := impl.AddFloor(lower, h.Stairs[last-1], h.Doors[last])
		wantHouse(t, "dropped and added", back, ok && fine, text)
	}
	longest, steps, ok := impl.LongestStairs(h)
	wantNumber(t, "longest stairs", steps, ok, slices.Max(h.Stairs))
	wantNumber(t, "floor of the longest", longest, ok, slices.Index(h.Stairs, steps))
	for steps := range impl.MaxBetween + 1 {
		var want []int
		for floor := range last {
			if h.Stairs[floor] > steps {
				want = append(want, floor)
			}
		}
		list, ok := impl.StairsAbove(h, steps)
		wantList(t, "stairs above", list, ok, want...)
	}
}

// nearest returns the lowest floor to which the fewest steps are gone from floors together, and how many.
func nearest(h impl.House, d drawing, floors []int) (int, int) {
	var sums []int
	for to := range h.Doors {
		sum := 0
		for _, from := range floors {
			sum += d.gone(from, to)
		}
		sums = append(sums, sum)
	}
	least := slices.Min(sums)
	return slices.Index(sums, least), least
}

func holdMiddle(t *testing.T, h impl.House, d drawing) {
	var floors []int
	for floor := range h.Doors {
		floors = append(floors, floor)
	}
	floor, steps := nearest(h, d, floors)
	wantTwo(t, "middle floor", tell(impl.MiddleFloor(h)), floor, steps)
}

// The second half of promise 4: landings are as few as can be.
func TestAgainstAllLandings(t *testing.T) {
	for _, h := range slices.Concat(smallHouses(2, 9, 0), smallHouses(3, 5, 0), smallHouses(4, 3, 0)) {
		d := drawn(h)
		var between []int
		for step, floor := range d {
			if floor < 0 {
				between = append(between, step)
			}
		}
		for most := 1; most <= 10; most++ {
			holdLandings(t, h, d, between, most)
		}
		if t.Failed() {
			t.Fatalf("house %v", h)
		}
	}
}

func holdLandings(t *testing.T, h impl.House, d drawing, between []int, most int) {
	var best []int
	found := false
	for bits := range 1 << len(between) {
		landings := choose(between, bits)
		if d.longest(landings) > most {
			continue
		}
		// Those at every most steps from the beginning of each stairs are the last ones of all that are as few.
		if !found || len(landings) < len(best) || len(landings) == len(best) && slices.Compare(landings, best) > 0 {
			best, found = landings, true
		}
	}
	n, ok := impl.LandingsNeeded(h, most)
	wantNumber(t, "landings needed", n, ok, len(best))
	list, ok := impl.LandingsAt(h, most)
	wantList(t, "landings at", list, ok, best...)
}

// The first half of promise 4: walks to doors are as long as told.
func TestAgainstAllWalks(t *testing.T) {
	for _, h := range slices.Concat(smallHouses(2, 2, 2), smallHouses(3, 2, 1), smallHouses(4, 2, 1), variedHouses()[4:5]) {
		d, floors := drawn(h), doorsOf(h)
		eachList(len(floors), 4, func(doors []int) { holdWalks(t, h, d, floors, doors) })
		if t.Failed() {
			t.Fatalf("house %v", h)
		}
	}
}

// eachList calls use with each list of one up to longest doors of so many, in which doors may stand again.
func eachList(doors int, longest int, use func(list []int)) {
	var list []int
	var longer func()
	longer = func() {
		if len(list) > 0 {
			use(list)
		}
		if len(list) == longest {
			return
		}
		for _, door := range upTo(doors) {
			list = append(list, door)
			longer()
			list = list[:len(list)-1]
		}
	}
	longer()
}

// orders returns all orders of a list, in which equal ones may stand several times.
func orders(list []int) [][]int {
	if len(list) == 0 {
		return [][]int{nil}
	}
	var all [][]int
	for i, n := range list {
		for _, rest := range orders(slices.Delete(slices.Clone(list), i, i+1)) {
			all = append(all, append([]int{n}, rest...))
		}
	}
	return all
}

// tour returns how many steps are gone to doors in turn, and back.
func (d drawing) tour(floors []int, doors []int) int {
	at, steps := 0, 0
	for _, door := range doors {
		steps += d.gone(at, floors[door-1])
		at = floors[door-1]
	}
	return steps + d.gone(at, 0)
}

func holdWalks(t *testing.T, h impl.House, d drawing, floors []int, doors []int) {
	n, ok := impl.WalkToDoors(h, doors)
	wantNumber(t, "walk", n, ok, d.tour(floors, doors))
	var first []int
	least := 0
	for _, order := range orders(doors) {
		steps := d.tour(floors, order)
		if first == nil || steps < least || steps == least && slices.Compare(order, first) < 0 {
			first, least = order, steps
		}
	}
	n, ok = impl.LeastWalk(h, doors)
	wantNumber(t, "least walk", n, ok, least)
	list, ok := impl.FirstLeastWalk(h, doors)
	wantList(t, "first least walk", list, ok, first...)
	var from []int
	for _, door := range doors {
		from = append(from, floors[door-1])
	}
	floor, steps := nearest(h, d, from)
	wantTwo(t, "meet floor", tell(impl.MeetFloor(h, doors)), floor, steps)
	if t.Failed() {
		t.Fatalf("house %v, doors %v", h, doors)
	}
}
