package tests

import (
	"slices"
	"testing"

	"loop.example/g01374/impl"
)

// smallStairs returns all stairs of up to seven steps with strides of 1, 2, 3, 5 and 9.
func smallStairs() []impl.Stairs {
	var all []impl.Stairs
	strides := []int{1, 2, 3, 5, 9}
	for steps := 1; steps <= 7; steps++ {
		for chosen := 1; chosen < 1<<len(strides); chosen++ {
			for broken := range 1 << (steps - 1) {
				all = append(all, impl.Stairs{Steps: steps, Strides: choose(strides, chosen), Broken: choose(upTo(steps-1), broken)})
			}
		}
	}
	return all
}

// choose returns those of the list whose bits are set.
func choose(list []int, bits int) []int {
	var chosen []int
	for i, n := range list {
		if bits>>i&1 == 1 {
			chosen = append(chosen, n)
		}
	}
	return chosen
}

// listed returns all climbs that go on from a step, in order, by trying each stride.
func listed(s impl.Stairs, at int) [][]int {
	if at == s.Steps {
		return [][]int{nil}
	}
	var climbs [][]int
	for _, stride := range s.Strides {
		if at+stride > s.Steps || slices.Contains(s.Broken, at+stride) {
			continue
		}
		for _, rest := range listed(s, at+stride) {
			climbs = append(climbs, append([]int{stride}, rest...))
		}
	}
	return climbs
}

// stoodOn returns the steps of a climb.
func stoodOn(climb []int) []int {
	var steps []int
	at := 0
	for _, stride := range climb {
		at += stride
		steps = append(steps, at)
	}
	return steps
}

func TestAgainstAllClimbsOfSmallStairs(t *testing.T) {
	for _, s := range smallStairs() {
		climbs := listed(s, 0)
		holdRanks(t, s, climbs)
		holdStrides(t, s, climbs)
		holdSteps(t, s, climbs)
		holdReached(t, s)
		if t.Failed() {
			t.Fatalf("stairs %v", s)
		}
	}
}

// holdRanks holds the first half of promise 1: ranks tell the climbs one behind the other.
func holdRanks(t *testing.T, s impl.Stairs, climbs [][]int) {
	n, ok := impl.CountClimbs(s)
	wantNumber(t, "count", n, ok, len(climbs))
	for rank, climb := range climbs {
		if is, ok := impl.IsClimb(s, climb); !is || !ok {
			t.Error(climb, "is a climb")
		}
		list, ok := impl.StepsOfClimb(s, climb)
		wantList(t, "steps", list, ok, stoodOn(climb)...)
		n, ok := impl.RankOfClimb(s, climb)
		wantNumber(t, "rank", n, ok, rank)
		list, ok = impl.ClimbOfRank(s, rank)
		wantList(t, "climb", list, ok, climb...)
		list, ok = impl.NextClimb(s, climb)
		if rank+1 < len(climbs) {
			wantList(t, "next", list, ok, climbs[rank+1]...)
		} else {
			wantNoList(t, "next", list, ok)
		}
	}
	list, ok := impl.ClimbOfRank(s, len(climbs))
	wantNoList(t, "beyond the last one", list, ok)
	list, ok = impl.FirstClimb(s)
	if len(climbs) > 0 {
		wantList(t, "first", list, ok, climbs[0]...)
	} else {
		wantNoList(t, "first", list, ok)
	}
}

func holdStrides(t *testing.T, s impl.Stairs, climbs [][]int) {
	by := make([]int, s.Steps+2)
	var shortest []int
	for _, climb := range climbs {
		by[len(climb)]++
		if shortest == nil || len(climb) < len(shortest) {
			shortest = climb
		}
	}
	longest := 0
	for many, want := range by {
		n, ok := impl.CountByStrides(s, many)
		wantNumber(t, "by strides", n, ok, want)
		if want > 0 {
			longest = many
		}
	}
	if len(climbs) == 0 {
		return
	}
	n, ok := impl.FewestStrides(s)
	wantNumber(t, "fewest", n, ok, len(shortest))
	n, ok = impl.MostStrides(s)
	wantNumber(t, "most", n, ok, longest)
	list, ok := impl.FirstFewest(s)
	wantList(t, "first fewest", list, ok, shortest...)
}

// holdSteps holds the second half of promise 1: a break takes away the climbs through a step.
func holdSteps(t *testing.T, s impl.Stairs, climbs [][]int) {
	through := make([]int, s.Steps+1)
	for _, climb := range climbs {
		for _, step := range stoodOn(climb) {
			through[step]++
		}
	}
	var needed []int
	worst := 1
	for step := 1; step <= s.Steps; step++ {
		n, ok := impl.ClimbsThrough(s, step)
		wantNumber(t, "through", n, ok, through[step])
		if through[step] == len(climbs) {
			needed = append(needed, step)
		}
		if step < s.Steps && through[step] > through[worst] {
			worst = step
		}
		holdBreak(t, s, step, len(climbs)-through[step])
	}
	if len(climbs) == 0 {
		return
	}
	list, ok := impl.NeededSteps(s)
	wantList(t, "needed", list, ok, needed...)
	if step, many, ok := impl.WorstToBreak(s); s.Steps > 1 && (step != worst || many != through[worst] || !ok) {
		t.Error("worst", step, many, ok, "want", worst, through[worst])
	}
}

func holdBreak(t *testing.T, s impl.Stairs, step int, left int) {
	broke, ok := impl.BreakStep(s, step)
	if step == s.Steps || slices.Contains(s.Broken, step) {
		wantStairs(t, "break", broke, ok, "")
		return
	}
	n, fine := impl.CountClimbs(broke)
	wantNumber(t, "left by the break", n, ok && fine, left)
	text, _ := impl.StairsText(s)
	mended, ok := impl.MendStep(broke, step)
	wantStairs(t, "mended", mended, ok, text)
	back, ok := impl.MendStep(s, step)
	wantStairs(t, "nothing to mend", back, ok, "")
}

// holdReached also holds turned stairs: they have as many climbs, and turned again they are as before.
func holdReached(t *testing.T, s impl.Stairs) {
	var reached, stuck []int
	for step := 1; step <= s.Steps; step++ {
		below := impl.Stairs{Steps: step, Strides: s.Strides}
		for _, b := range s.Broken {
			if b < step {
				below.Broken = append(below.Broken, b)
			}
		}
		if slices.Contains(s.Broken, step) || len(listed(below, 0)) == 0 {
			continue
		}
		reached = append(reached, step)
		if len(listed(s, step)) == 0 {
			stuck = append(stuck, step)
		}
	}
	list, ok := impl.ReachedSteps(s)
	wantList(t, "reached", list, ok, reached...)
	list, ok = impl.StuckSteps(s)
	wantList(t, "stuck", list, ok, stuck...)

	text, ok := impl.StairsText(s)
	again, fine := impl.ParseStairs(text)
	wantStairs(t, "parsed", again, ok && fine, text)
	turned, ok := impl.TurnStairs(s)
	back, fine := impl.TurnStairs(turned)
	wantStairs(t, "turned twice", back, ok && fine, text)
	n, ok := impl.CountClimbs(turned)
	wantNumber(t, "count turned", n, ok, len(listed(s, 0)))
}
