package tests

import (
	"cmp"
	"runtime"
	"slices"
	"strings"
	"sync"
	"testing"
	"time"

	"loop.example/g01374/impl"
)

// piecesOf cuts a roll piece by piece, and returns how many there are, and what is left.
func piecesOf(long int, need int) (int, int) {
	pieces := 0
	for ; long >= need; long -= need {
		pieces++
	}
	return pieces, long
}

// A heap is some of the rolls: which ones, how many steps they cover, and how long they are together.
type heap struct {
	list  []int
	steps int
	long  int
}

// heapsOf returns all heaps of rolls, by their lists.
func heapsOf(r []int, need int) []heap {
	var all []heap
	for bits := 1; bits < 1<<len(r); bits++ {
		h := heap{list: choose(from0(len(r)-1), bits)}
		for _, roll := range h.list {
			pieces, _ := piecesOf(r[roll], need)
			h.steps += pieces
			h.long += r[roll]
		}
		all = append(all, h)
	}
	slices.SortFunc(all, func(a heap, b heap) int { return slices.Compare(a.list, b.list) })
	return all
}

// bestHeap returns the first list of those that cover so many steps and are the least by an order, and nil if there is none.
func bestHeap(heaps []heap, steps int, order func(a heap, b heap) int) []int {
	enough := slices.DeleteFunc(slices.Clone(heaps), func(h heap) bool { return h.steps < steps })
	if len(enough) == 0 {
		return nil
	}
	return slices.MinFunc(enough, order).list
}

func byCount(a heap, b heap) int { return cmp.Compare(len(a.list), len(b.list)) }

func byLength(a heap, b heap) int { return cmp.Compare(a.long, b.long) }

// smallRolls returns all lists of up to three rolls of 1 up to 6, and of four ones of 1 up to 3.
func smallRolls() [][]int {
	var all [][]int
	var add func(list []int, rolls int, most int)
	add = func(list []int, rolls int, most int) {
		if rolls == 0 {
			all = append(all, list)
			return
		}
		for long := 1; long <= most; long++ {
			add(append(list[:len(list):len(list)], long), rolls-1, most)
		}
	}
	for rolls := 1; rolls <= 3; rolls++ {
		add(nil, rolls, 6)
	}
	add(nil, 4, 3)
	return all
}

// variedRolls returns lists of three up to MaxRolls rolls: in turn of any lengths, of short ones, and of few different ones, so that many
// lists of them are equally good.
func variedRolls() [][]int {
	var all [][]int
	z := 1
	next := func(below int) int {
		z = (z*293 + 907) % 10007
		return z % below
	}
	for n := 3; n <= impl.MaxRolls; n++ {
		for kind := range 9 {
			r := make([]int, n)
			for roll := range r {
				switch kind % 3 {
				case 0:
					r[roll] = next(impl.MaxRoll) + 1
				case 1:
					r[roll] = next(150) + 1
				case 2:
					r[roll] = 20 * (next(6) + 1)
				}
			}
			all = append(all, r)
		}
	}
	return all
}

// eachRolls calls use with rolls of all kinds, and with needs that suit them.
func eachRolls(t *testing.T, use func(r []int, need int)) {
	t.Helper()
	hold := func(lists [][]int, needs []int) {
		for _, r := range lists {
			for _, need := range needs {
				use(r, need)
				if t.Failed() {
					t.Fatalf("rolls %v, a need of %d", r, need)
				}
			}
		}
	}
	hold(smallRolls(), upTo(7))
	hold(variedRolls(), []int{1, 7, 20, 33, 40, 59, 99, 100})
}

// The first half of promise 8: rolls cover whole steps.
func TestRollsCoverWholeSteps(t *testing.T) {
	eachRolls(t, func(r []int, need int) {
		steps, rest := 0, 0
		for _, long := range r {
			pieces, left := piecesOf(long, need)
			wantTwo(t, "roll", tell(impl.StepsOfRoll(long, need)), pieces, left)
			steps += pieces
			rest += left
		}
		wantTogether(t, r, need, steps, rest)
		if steps*need+rest != total(r) {
			t.Errorf("%d steps and a rest of %d are not as long as all rolls", steps, rest)
		}
	})
}

func TestChosenRollsAgainstAllLists(t *testing.T) {
	eachRolls(t, func(r []int, need int) {
		heaps := heapsOf(r, need)
		all, _ := impl.StepsOfRolls(r, need)
		// Many steps in a row are covered by the same rolls: with a lot of them only some are asked for.
		for steps := 1; steps <= min(all, impl.MaxCover); steps += 1 + steps/10 {
			wantChosen(t, r, steps, need, bestHeap(heaps, steps, byCount), bestHeap(heaps, steps, byLength))
		}
		for _, steps := range []int{all, all + 1, impl.MaxCover} {
			if steps > impl.MaxCover || steps == 0 {
				continue
			}
			if fewest := bestHeap(heaps, steps, byCount); len(fewest) > 0 {
				wantChosen(t, r, steps, need, fewest, bestHeap(heaps, steps, byLength))
			} else {
				wantNotCovered(t, r, steps, need)
			}
		}
	})
}

// A plan is followed piece by piece: no roll is used behind a later one, or before a former one has come to its rest.
func TestPlansCutPieceByPiece(t *testing.T) {
	eachRolls(t, func(r []int, need int) {
		var plan, joins []int
		for roll, long := range r {
			for ; long >= need; long -= need {
				plan = append(plan, roll)
				if n := len(plan); n > 1 && plan[n-2] != roll {
					joins = append(joins, n)
				}
			}
		}
		for _, steps := range []int{1, 2, 3, len(plan) - 1, len(plan), len(plan) + 1, impl.MaxCover} {
			if steps < 1 || steps > impl.MaxCover {
				continue
			}
			list, ok := impl.CoverPlan(r, steps, need)
			if steps > len(plan) {
				wantNoList(t, "plan", list, ok)
				continue
			}
			wantList(t, "plan", list, ok, plan[:steps]...)
			list, ok = impl.JoinsOfPlan(list)
			wantList(t, "joins", list, ok, slices.DeleteFunc(slices.Clone(joins), func(join int) bool { return join > steps })...)
		}
	})
}

func TestJoinsAgainstRuns(t *testing.T) {
	z := 1
	for length := 1; length <= impl.MaxCover; length++ {
		var plan, joins []int
		// Each run is of another roll than the one before.
		for roll := 0; len(plan) < length; {
			z = (z*293 + 907) % 10007
			if len(plan) > 0 {
				joins = append(joins, len(plan)+1)
			}
			roll = (roll + 1 + z%7) % impl.MaxRolls
			plan = append(plan, slices.Repeat([]int{roll}, min(1+z/7%4, length-len(plan)))...)
		}
		list, ok := impl.JoinsOfPlan(plan)
		wantList(t, "joins", list, ok, joins...)
	}
}

func TestGreatestNeedsAgainstAllNeeds(t *testing.T) {
	for _, r := range append(smallRolls(), variedRolls()...) {
		// Of the needs that do, the later ones are greater.
		greatest := make([]int, impl.MaxCover+1)
		for need := 1; need <= impl.MaxNeed; need++ {
			all := 0
			for _, long := range r {
				pieces, _ := piecesOf(long, need)
				all += pieces
			}
			for steps := 1; steps <= min(all, impl.MaxCover); steps++ {
				greatest[steps] = need
			}
		}
		for steps := 1; steps <= impl.MaxCover; steps++ {
			wantGreatest(t, r, steps, greatest[steps])
		}
		if t.Failed() {
			t.Fatalf("rolls %v", r)
		}
	}
}

// eachPattern calls use with all needs and with patterns that go into them or not, and with how far the pattern has come at the beginning
// of each step: the carpet is laid by 1 each time, and one more step is laid than there may be.
func eachPattern(t *testing.T, use func(need int, pattern int, starts []int)) {
	t.Helper()
	patterns := append(upTo(40), 48, 50, 60, 64, 72, 75, 96, 97, 98, 99, 100, 101, 120, 150, 199, 200, 201, 300, 1000, 1999, 2000)
	for need := 1; need <= impl.MaxNeed; need++ {
		for _, pattern := range patterns {
			var starts []int
			come, left := 0, 0
			for len(starts) <= impl.MaxCover {
				if left == 0 {
					starts = append(starts, come)
					left = need
				}
				left--
				come++
				if come == pattern {
					come = 0
				}
			}
			use(need, pattern, starts)
			if t.Failed() {
				t.Fatalf("a need of %d, a pattern of %d", need, pattern)
			}
		}
	}
}

// The second half of promise 8: patterns begin where steps have come.
func TestPatternsBeginWhereStepsHaveCome(t *testing.T) {
	eachPattern(t, func(need int, pattern int, starts []int) {
		for _, steps := range []int{1, 2, 3, 20, impl.MaxCover} {
			wantStarts(t, need, pattern, starts[:steps]...)
		}
	})
}

func TestPeriodsOfPatterns(t *testing.T) {
	eachPattern(t, func(need int, pattern int, starts []int) {
		period, ok := impl.PatternPeriod(need, pattern)
		if !ok || period < 1 {
			t.Fatalf("period: got %d, %v", period, ok)
		}
		// The pattern begins in the same way again as soon as it begins anew.
		steps, come := 1, need%pattern
		for ; come != 0; come = (come + need) % pattern {
			steps++
		}
		wantNumber(t, "period", period, ok, steps)
		for i := range starts {
			if i+period < len(starts) && starts[i+period] != starts[i] {
				t.Errorf("starts %v do not begin again behind %d steps", starts, period)
			}
		}
	})
}

// With more of the carpet, whole patterns of it, each step begins with a new one.
func TestPatternsThatBeginAnewAtEachStep(t *testing.T) {
	eachPattern(t, func(need int, pattern int, starts []int) {
		each := 0
		for each < need {
			each += pattern
		}
		got := tell(impl.WithPattern(need, pattern))
		wantTwo(t, "with pattern", got, each, each-need)
		if each <= impl.MaxNeed {
			wantStarts(t, each, pattern, make([]int, 20)...)
		}
	})
}

// drawnStripes returns a drawing of a carpet that is so long: the number of the stripe at each place.
func drawnStripes(wide int, long int) []int {
	var drawing []int
	for stripe := 0; len(drawing) < long; stripe++ {
		drawing = append(drawing, slices.Repeat([]int{stripe}, wide)...)
	}
	return drawing[:long]
}

// coloured returns the colours of a drawing, place by place.
func coloured(stripes string, drawing []int) string {
	var colours strings.Builder
	again := strings.Repeat(stripes, len(drawing)/len(stripes)+1)
	for _, stripe := range drawing {
		colours.WriteByte(again[stripe])
	}
	return colours.String()
}

// eachCarpet calls use with striped carpets and with their drawings.
func eachCarpet(t *testing.T, use func(stripes string, wide int, drawing []int, colours string)) {
	t.Helper()
	const long = impl.MaxCover * impl.MaxNeed
	for _, stripes := range []string{
		"a", "z", "ab", "ba", "aa", "abc", "aab", "aba", "baa", "abab", "abba", "aaab", "abcd", "aabb", "abcabd", "aaaaaaaaab", "baaaaaaaaa", "abcdefghij", "qrstuvwxyz", "ababababab", "zzzzzzzzzz",
	} {
		for _, wide := range []int{1, 2, 3, 5, 8, 10, 20, 33, 99, 100} {
			drawing := drawnStripes(wide, long)
			use(stripes, wide, drawing, coloured(stripes, drawing))
			if t.Failed() {
				t.Fatalf("stripes %q, %d wide", stripes, wide)
			}
		}
	}
}

func TestColoursAgainstDrawings(t *testing.T) {
	eachCarpet(t, func(stripes string, wide int, drawing []int, colours string) {
		for place := 0; place <= impl.MaxRoll; place++ {
			got, ok := impl.ColourAt(stripes, wide, place)
			wantText(t, "colour", got, ok, colours[place:place+1])
		}
	})
}

func TestStepsAgainstDrawings(t *testing.T) {
	eachCarpet(t, func(stripes string, wide int, drawing []int, colours string) {
		for _, need := range []int{1, 2, 3, 5, 7, 8, 12, 15, 16, 20, 24, 33, 50, 99, 100} {
			var alike []int
			for step := 1; step <= impl.MaxCover; step++ {
				from, to := (step-1)*need, step*need
				var want strings.Builder
				for place := from; place < to; place++ {
					if place == from || drawing[place] != drawing[place-1] {
						want.WriteByte(colours[place])
					}
				}
				got, ok := impl.ColoursOfStep(stripes, wide, need, step)
				wantText(t, "colours", got, ok, want.String())
				if step > 1 && colours[from:to] == colours[:need] {
					alike = append(alike, step)
				}
			}
			for _, steps := range []int{1, 2, 3, 9, 50, 99, 100} {
				list, ok := impl.AlikeSteps(stripes, wide, need, steps)
				wantList(t, "alike", list, ok, slices.DeleteFunc(slices.Clone(alike), func(step int) bool { return step > steps })...)
			}
		}
	})
}

func TestTextsOfAllRolls(t *testing.T) {
	for _, r := range append(smallRolls(), variedRolls()...) {
		text, ok := impl.RollsText(r)
		parsed, fine := impl.ParseRolls(text)
		wantList(t, "parsed", parsed, ok && fine, r...)
	}
	for long := 1; long <= impl.MaxRoll; long++ {
		text, ok := impl.RollsText([]int{long})
		parsed, fine := impl.ParseRolls(text)
		wantList(t, "parsed", parsed, ok && fine, long)
	}
}

// Whoever of those that look at rolls is first: of many lists that are equally good the first one is told each time.
func TestChoicesAreTheSameEachTime(t *testing.T) {
	r := []int{40, 60, 20, 80, 60, 20, 40, 80}
	for range 2000 {
		wantChosen(t, r, 10, 20, []int{0, 3, 7}, []int{0, 1, 2, 3})
	}
}

// Nobody who looks at rolls goes on behind the call, or looks at them then.
func TestNobodyLooksBehindACall(t *testing.T) {
	before := runtime.NumGoroutine()
	r := []int{40, 60, 20, 80, 60, 20, 40, 80}
	for range 1000 {
		n, ok := impl.LeastLength(r, 20, 20)
		wantNumber(t, "least length", n, ok, 400)
		r[0]--
		n, ok = impl.LeastLength(r, 20, 20)
		wantNoNumber(t, "least length", n, ok)
		r[0]++
	}
	// One that has said its last word may still be there for a moment.
	for wait := 0; runtime.NumGoroutine() > before && wait < 1000; wait++ {
		time.Sleep(time.Millisecond)
	}
	if after := runtime.NumGoroutine(); after > before {
		t.Errorf("%d goroutines before, %d behind the calls", before, after)
	}
}

// Calls at one time know nothing of each other, though they are given the same rolls.
func TestRollsAtOneTime(t *testing.T) {
	r := rolls(t, "100+70+45")
	var group sync.WaitGroup
	for range 8 {
		group.Go(func() {
			for range 200 {
				wantChosen(t, r, 7, 20, []int{0, 1}, []int{0, 2})
				wantNotCovered(t, r, 5, 45)
			}
		})
	}
	group.Wait()
}
