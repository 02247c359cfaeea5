package tests

import (
	"fmt"
	"slices"
	"testing"

	"loop.example/g01374/impl"
)

// smallBears returns all bears of up to so many steps that bear up to so many feet.
func smallBears(steps int, feet int) [][]int {
	all := [][]int{nil}
	for from := 0; steps > 0; steps-- {
		until := len(all)
		for _, below := range all[from:until] {
			for n := range feet + 1 {
				all = append(all, append(below[:len(below):len(below)], n))
			}
		}
		from = until
	}
	return all[1:]
}

// isWay holds a set of steps against the words of the document: no step is missed that is needed, and each one bears a foot.
func isWay(b []int, reach int, climb []int) bool {
	at := 0
	for _, step := range append(climb[:len(climb):len(climb)], len(b)+1) {
		if step-at > reach || step <= len(b) && b[step-1] == 0 {
			return false
		}
		at = step
	}
	return true
}

// wearClimbs returns all climbs in order, found among all sets of steps.
func wearClimbs(b []int, reach int) [][]int {
	var climbs [][]int
	for bits := range 1 << len(b) {
		if climb := choose(upTo(len(b)), bits); isWay(b, reach, climb) {
			climbs = append(climbs, climb)
		}
	}
	slices.SortFunc(climbs, slices.Compare)
	return climbs
}

// mostTried returns the greatest number of climbs one after the other, by trying each climb each time.
func mostTried(b []int, reach int, known map[string]int) int {
	key := fmt.Sprint(b, reach)
	if most, ok := known[key]; ok {
		return most
	}
	most := 0
	for _, climb := range wearClimbs(b, reach) {
		most = max(most, 1+mostTried(wornBy(b, climb), reach, known))
	}
	known[key] = most
	return most
}

func wornBy(b []int, climb []int) []int {
	worn := slices.Clone(b)
	for _, step := range climb {
		worn[step-1]--
	}
	return worn
}

func TestAgainstAllClimbsOfSmallBears(t *testing.T) {
	known := map[string]int{}
	for _, b := range append(smallBears(4, 3), smallBears(6, 1)...) {
		for reach := 1; reach <= len(b)+1; reach++ {
			holdWearClimbs(t, b, reach)
			if reach <= len(b) {
				holdMost(t, b, reach, known)
			}
			if t.Failed() {
				t.Fatalf("bears %v, reach %d", b, reach)
			}
		}
		holdReach(t, b, known)
	}
}

// holdWearClimbs holds the first half of promise 2: climbs wear their steps by one foot each.
func holdWearClimbs(t *testing.T, b []int, reach int) {
	climbs := wearClimbs(b, reach)
	n, ok := impl.CountWearClimbs(b, reach)
	wantNumber(t, "count", n, ok, len(climbs))
	for bits := range 1 << len(b) {
		climb := choose(upTo(len(b)), bits)
		is, ok := impl.IsWearClimb(b, reach, climb)
		if !ok || is != isWay(b, reach, climb) {
			t.Error(climb, "a climb:", is, ok)
		}
		list, ok := impl.WearBy(b, reach, climb)
		if !is {
			wantNoList(t, "worn", list, ok)
			continue
		}
		wantList(t, "worn", list, ok, wornBy(b, climb)...)
		again, ok := impl.WearAll(b, reach, [][]int{climb, climb})
		if next, fine := impl.WearBy(list, reach, climb); ok != fine || !slices.Equal(again, next) {
			t.Error("worn twice", again, ok, "want", next, fine)
		}
	}
	first, ok := impl.FirstWearClimb(b, reach)
	fewest, fine := impl.FewestOnWear(b, reach)
	if len(climbs) == 0 {
		wantNoList(t, "first", first, ok)
		wantNoNumber(t, "fewest", fewest, fine)
		return
	}
	wantList(t, "first", first, ok, climbs[0]...)
	shortest := slices.MinFunc(climbs, func(a []int, b []int) int { return len(a) - len(b) })
	wantNumber(t, "fewest", fewest, fine, len(shortest))
}

// holdMost holds the second half of promise 2: there are as many climbs as the weakest part bears feet.
func holdMost(t *testing.T, b []int, reach int, known map[string]int) {
	most := mostTried(b, reach, known)
	n, ok := impl.MostWears(b, reach)
	wantNumber(t, "most", n, ok, most)
	first, feet, ok := impl.WeakestPart(b, reach)
	wantNumber(t, "feet of the weakest", feet, ok, most)
	sums, ok := impl.PartsOfBears(b, reach)
	wantNumber(t, "parts", len(sums), ok, len(b)-reach+1)
	for i, sum := range sums {
		want := 0
		for _, feet := range b[i : i+reach] {
			want += feet
		}
		wantNumber(t, "part", sum, ok, want)
	}
	wantNumber(t, "weakest", first, ok, slices.Index(sums, most)+1)
	for each := 1; each <= 4; each++ {
		days, left, ok := impl.DaysOfWear(b, reach, each)
		if !ok || days*each+left != most || left >= each {
			t.Error("days", days, left, ok, "of", most, "by", each)
		}
	}
	var idle, without []int
	for i := range b {
		lost := slices.Clone(b)
		lost[i] = 0
		without = append(without, mostTried(lost, reach, known))
		if without[i] == most {
			idle = append(idle, i+1)
		}
	}
	list, ok := impl.IdleBears(b, reach)
	wantList(t, "idle", list, ok, idle...)
	step, left, ok := impl.WorstStepToLose(b, reach)
	wantNumber(t, "most without the worst", left, ok, slices.Min(without))
	wantNumber(t, "worst", step, ok, slices.Index(without, slices.Min(without))+1)
}

func holdReach(t *testing.T, b []int, known map[string]int) {
	for climbs := range 8 {
		want := 1
		for want <= len(b) && mostTried(b, want, known) < climbs {
			want++
		}
		n, ok := impl.ReachForWears(b, climbs)
		wantNumber(t, "reach", n, ok, want)
	}
	text, ok := impl.BearsText(b)
	again, fine := impl.ParseBears(text)
	wantList(t, "parsed", again, ok && fine, b...)
	turned, ok := impl.TurnBears(b)
	back, fine := impl.TurnBears(turned)
	wantList(t, "turned twice", back, ok && fine, b...)
	wantNumber(t, "turned", turned[0], ok, b[len(b)-1])
}

// TestAgainstAllMends holds the late mend against all mends of small bears:
// no other one that is enough has, up to any step, less in it.
func TestAgainstAllMends(t *testing.T) {
	known := map[string]int{}
	for _, b := range smallBears(3, 2) {
		for reach := 1; reach <= len(b); reach++ {
			for climbs := range 5 {
				late, ok := impl.LateMend(b, reach, climbs)
				sum, fine := impl.MendSum(b, reach, climbs)
				wantNumber(t, "mend", sum, fine, total(late)-total(b))
				if !ok || mostTried(late, reach, known) < climbs {
					t.Fatalf("LateMend(%v, %d, %d): got %v, %v", b, reach, climbs, late, ok)
				}
				holdLate(t, b, late, reach, climbs, known)
			}
		}
	}
}

func holdLate(t *testing.T, b []int, late []int, reach int, climbs int, known map[string]int) {
	for _, more := range smallBears(len(b), climbs) {
		if len(more) < len(b) {
			continue
		}
		mended := slices.Clone(b)
		for i, feet := range more {
			mended[i] += feet
		}
		if mostTried(mended, reach, known) < climbs {
			continue
		}
		for k := range b {
			if late[k] < b[k] || total(late[:k+1]) > total(mended[:k+1]) {
				t.Fatalf("LateMend(%v, %d, %d): got %v, and %v is enough", b, reach, climbs, late, mended)
			}
		}
	}
}

func total(list []int) int {
	sum := 0
	for _, n := range list {
		sum += n
	}
	return sum
}
