package tests

import (
	"math"
	"slices"
	"strings"
	"testing"

	"loop.example/g01374/impl"
)

// These two are the nearest known to MaxClimbs from below and from above.
const almostTooMany = "60s1,2,3,4,5x1,20,24,41,46,53,55"
const justTooMany = "60s1,2,3,4,5x1,2,12,18,19,36,53"

func TestAreStairs(t *testing.T) {
	for _, s := range []impl.Stairs{
		{Steps: 1, Strides: []int{1}},
		{Steps: 1, Strides: []int{9}},
		{Steps: 1, Strides: []int{1}, Broken: []int{}},
		{Steps: impl.MaxSteps, Strides: []int{1, 2, 3, 4, impl.MaxStride}},
		{Steps: impl.MaxSteps, Strides: []int{5, 6, 7, 8, 9}, Broken: upTo(59)},
		{Steps: 2, Strides: []int{2}, Broken: []int{1}},
	} {
		if !impl.AreStairs(s) {
			t.Errorf("%v are stairs", s)
		}
	}
	for _, s := range oddStairs() {
		if impl.AreStairs(s) {
			t.Errorf("%v are no stairs", s)
		}
	}
}

func TestIsClimbAndItsSteps(t *testing.T) {
	s := stairs(t, "5s1,2x3")
	for _, climb := range [][]int{{1, 1, 2, 1}, {2, 2, 1}} {
		if is, ok := impl.IsClimb(s, climb); !is || !ok {
			t.Errorf("%v is a climb: got %v, %v", climb, is, ok)
		}
	}
	got, ok := impl.StepsOfClimb(s, []int{1, 1, 2, 1})
	wantList(t, "steps", got, ok, 1, 2, 4, 5)
	got, ok = impl.StepsOfClimb(s, []int{2, 2, 1})
	wantList(t, "steps", got, ok, 2, 4, 5)
	for _, climb := range oddClimbs() {
		if is, ok := impl.IsClimb(s, climb); is || !ok {
			t.Errorf("%v is no climb: got %v, %v", climb, is, ok)
		}
		got, ok := impl.StepsOfClimb(s, climb)
		wantNoList(t, "steps", got, ok)
	}
	if is, ok := impl.IsClimb(impl.Stairs{}, []int{1}); is || ok {
		t.Error("a climb without stairs")
	}
}

// oddClimbs returns lists of which none is a climb of 5s1,2x3.
func oddClimbs() [][]int {
	return [][]int{
		nil, {}, {1}, {2, 2}, {2, 2, 2}, {2, 2, 1, 1}, {2, 2, 1, 0}, {0, 2, 2, 1},
		{1, 2, 2}, {2, 1, 2}, {3, 2}, {5}, {1, 1, 3}, {2, 2, 2, -1}, {-1, 2, 2, 2}, {2, 3},
		{math.MaxInt}, {math.MinInt}, {2, math.MaxInt, math.MaxInt}, {math.MinInt, math.MinInt, 2, 2, 1},
		make([]int, 1000), slices.Repeat([]int{1}, 1000),
	}
}

func TestExampleOfTheDocument(t *testing.T) {
	s := stairs(t, "5s1,2x3")
	n, ok := impl.CountClimbs(s)
	wantNumber(t, "count", n, ok, 2)
	list, ok := impl.ReachedSteps(s)
	wantList(t, "reached", list, ok, 1, 2, 4, 5)
	list, ok = impl.NeededSteps(s)
	wantList(t, "needed", list, ok, 2, 4, 5)
	list, ok = impl.StuckSteps(s)
	wantList(t, "stuck", list, ok)
	n, ok = impl.FewestStrides(s)
	wantNumber(t, "fewest", n, ok, 3)
	n, ok = impl.MostStrides(s)
	wantNumber(t, "most", n, ok, 4)
	turned, ok := impl.TurnStairs(s)
	wantStairs(t, "turned", turned, ok, "5s1,2x2")

	s = stairs(t, "4s1,3")
	n, ok = impl.CountClimbs(s)
	wantNumber(t, "count", n, ok, 3)
	n, ok = impl.RankOfClimb(s, []int{1, 3})
	wantNumber(t, "rank", n, ok, 1)
	for rank, climb := range [][]int{{1, 1, 1, 1}, {1, 3}, {3, 1}} {
		list, ok = impl.ClimbOfRank(s, rank)
		wantList(t, "climb", list, ok, climb...)
	}
	step, many, ok := impl.WorstToBreak(s)
	if step != 1 || many != 2 || !ok {
		t.Error("worst", step, many, ok)
	}
}

func TestStairsOfOneStep(t *testing.T) {
	s := stairs(t, "1s1,2")
	n, ok := impl.CountClimbs(s)
	wantNumber(t, "count", n, ok, 1)
	list, ok := impl.FirstClimb(s)
	wantList(t, "first", list, ok, 1)
	list, ok = impl.StepsOfClimb(s, []int{1})
	wantList(t, "steps", list, ok, 1)
	n, ok = impl.RankOfClimb(s, []int{1})
	wantNumber(t, "rank", n, ok, 0)
	list, ok = impl.ClimbOfRank(s, 0)
	wantList(t, "climb", list, ok, 1)
	list, ok = impl.NextClimb(s, []int{1})
	wantNoList(t, "next", list, ok)
	for many, want := range []int{0, 1, 0} {
		n, ok = impl.CountByStrides(s, many)
		wantNumber(t, "by strides", n, ok, want)
	}
	n, ok = impl.FewestStrides(s)
	wantNumber(t, "fewest", n, ok, 1)
	n, ok = impl.MostStrides(s)
	wantNumber(t, "most", n, ok, 1)
	list, ok = impl.FirstFewest(s)
	wantList(t, "first fewest", list, ok, 1)
	list, ok = impl.ReachedSteps(s)
	wantList(t, "reached", list, ok, 1)
	list, ok = impl.StuckSteps(s)
	wantList(t, "stuck", list, ok)
	list, ok = impl.NeededSteps(s)
	wantList(t, "needed", list, ok, 1)
	n, ok = impl.ClimbsThrough(s, 1)
	wantNumber(t, "through", n, ok, 1)
	if step, many, ok := impl.WorstToBreak(s); step != 0 || many != 0 || ok {
		t.Error("there is no step below the top:", step, many, ok)
	}
	got, ok := impl.BreakStep(s, 1)
	wantStairs(t, "break", got, ok, "")
	got, ok = impl.MendStep(s, 1)
	wantStairs(t, "mend", got, ok, "")
	got, ok = impl.TurnStairs(s)
	wantStairs(t, "turn", got, ok, "1s1,2")
}

func TestStairsWithoutClimb(t *testing.T) {
	for _, text := range []string{"5s2", "1s2", "3s1x1", "4s1,2x2,3", "60s9", "60s1x59", "3s2x1,2"} {
		s := stairs(t, text)
		n, ok := impl.CountClimbs(s)
		wantNumber(t, text+" count", n, ok, 0)
		n, ok = impl.CountByStrides(s, 2)
		wantNumber(t, text+" by strides", n, ok, 0)
		n, ok = impl.ClimbsThrough(s, s.Steps)
		wantNumber(t, text+" through", n, ok, 0)
		list, ok := impl.FirstClimb(s)
		wantNoList(t, text+" first", list, ok)
		list, ok = impl.ClimbOfRank(s, 0)
		wantNoList(t, text+" climb", list, ok)
		list, ok = impl.FirstFewest(s)
		wantNoList(t, text+" first fewest", list, ok)
		list, ok = impl.NeededSteps(s)
		wantNoList(t, text+" needed", list, ok)
		n, ok = impl.FewestStrides(s)
		wantNoNumber(t, text+" fewest", n, ok)
		n, ok = impl.MostStrides(s)
		wantNoNumber(t, text+" most", n, ok)
		if step, many, ok := impl.WorstToBreak(s); step != 0 || many != 0 || ok {
			t.Error(text, "worst", step, many, ok)
		}
	}
	for text, want := range map[string][]int{"5s2": {2, 4}, "1s2": nil, "3s1x1": nil, "4s1,2x2,3": {1}, "60s1x59": upTo(58)} {
		list, ok := impl.StuckSteps(stairs(t, text))
		wantList(t, text+" stuck", list, ok, want...)
		list, ok = impl.ReachedSteps(stairs(t, text))
		wantList(t, text+" reached", list, ok, want...)
	}
}

func TestBreakMendAndTurn(t *testing.T) {
	for _, c := range []struct {
		text string
		step int
		want string
	}{
		{"5s1,2x3", 1, "5s1,2x1,3"}, {"5s1,2x3", 4, "5s1,2x3,4"}, {"5s1,2", 2, "5s1,2x2"}, {"6s3x1,3,5", 2, "6s3x1,2,3,5"},
		{"5s1,2x3", 3, ""}, {"5s1,2x3", 5, ""}, {"5s1,2x3", 6, ""}, {"5s1,2x3", 0, ""}, {"5s1,2x3", -1, ""},
		{"5s1,2x3", math.MaxInt, ""}, {"5s1,2x3", math.MinInt, ""}, {"60s1", 59, "60s1x59"}, {"60s1", 60, ""},
	} {
		got, ok := impl.BreakStep(stairs(t, c.text), c.step)
		wantStairs(t, "break", got, ok, c.want)
	}
	for _, c := range []struct {
		text string
		step int
		want string
	}{
		{"5s1,2x3", 3, "5s1,2"}, {"6s3x1,3,5", 3, "6s3x1,5"}, {"6s3x1,3,5", 5, "6s3x1,3"}, {"60s1x59", 59, "60s1"},
		{"5s1,2x3", 2, ""}, {"5s1,2x3", 5, ""}, {"5s1,2x3", 0, ""}, {"5s1,2x3", 6, ""}, {"5s1,2", 3, ""},
		{"5s1,2x3", math.MaxInt, ""}, {"5s1,2x3", math.MinInt, ""},
	} {
		got, ok := impl.MendStep(stairs(t, c.text), c.step)
		wantStairs(t, "mend", got, ok, c.want)
	}
	for text, want := range map[string]string{
		"5s1,2": "5s1,2", "6s1,9x1,2,4": "6s1,9x2,4,5", "60s5x1,58": "60s5x2,59", "2s2x1": "2s2x1",
	} {
		got, ok := impl.TurnStairs(stairs(t, text))
		wantStairs(t, "turn "+text, got, ok, want)
	}
}

// TestManyBrokenSteps holds that broken steps are increasing, in whatever order they are kept.
func TestManyBrokenSteps(t *testing.T) {
	all := impl.Stairs{Steps: 60, Strides: []int{9}, Broken: upTo(59)}
	got, ok := impl.TurnStairs(all)
	wantList(t, "turn", got.Broken, ok, upTo(59)...)
	got, ok = impl.MendStep(all, 59)
	wantList(t, "mend", got.Broken, ok, upTo(58)...)
	got, ok = impl.BreakStep(got, 59)
	wantList(t, "break", got.Broken, ok, upTo(59)...)
}

func TestWorstToBreak(t *testing.T) {
	for _, c := range []struct {
		text       string
		step, many int
	}{
		{"5s1,2", 2, 6}, {"5s1,2x3", 2, 2}, {"5s1,2x1", 2, 3}, {"6s2,3", 2, 1}, {"2s1,2", 1, 1}, {"7s1,2,4", 2, 20},
		// The only climb passes by all steps below the top: the first one of them is told, broken or not.
		{"5s5", 1, 0}, {"5s5x1", 1, 0}, {"2s2x1", 1, 0},
	} {
		step, many, ok := impl.WorstToBreak(stairs(t, c.text))
		if step != c.step || many != c.many || !ok {
			t.Errorf("worst of %s: got %d, %d, %v, want %d, %d", c.text, step, many, ok, c.step, c.many)
		}
	}
}

func TestNumbersBeyondThoseThereAre(t *testing.T) {
	s := stairs(t, "5s1,2x3")
	for _, n := range []int{-1, 2, 3, math.MaxInt, math.MinInt} {
		list, ok := impl.ClimbOfRank(s, n)
		wantNoList(t, "climb", list, ok)
	}
	for _, n := range []int{-1, 0, 6, 61, math.MaxInt, math.MinInt} {
		many, ok := impl.ClimbsThrough(s, n)
		wantNoNumber(t, "through", many, ok)
	}
	many, ok := impl.ClimbsThrough(s, 3)
	wantNumber(t, "through a broken step", many, ok, 0)
	many, ok = impl.ClimbsThrough(s, 5)
	wantNumber(t, "through the top", many, ok, 2)
	for _, n := range []int{-1, math.MinInt} {
		many, ok := impl.CountByStrides(s, n)
		wantNoNumber(t, "by strides", many, ok)
	}
	for _, n := range []int{0, 1, 2, 5, 6, 60, 61, math.MaxInt} {
		many, ok := impl.CountByStrides(s, n)
		wantNumber(t, "by strides", many, ok, 0)
	}
	list, ok := impl.NextClimb(s, []int{2, 2, 1})
	wantNoList(t, "next to the last one", list, ok)
	for _, climb := range oddClimbs() {
		rank, ok := impl.RankOfClimb(s, climb)
		wantNoNumber(t, "rank", rank, ok)
		list, ok := impl.NextClimb(s, climb)
		wantNoList(t, "next", list, ok)
	}
}

func TestTexts(t *testing.T) {
	for text, s := range map[string]impl.Stairs{
		"1s1":            {Steps: 1, Strides: []int{1}},
		"5s1,2x3":        {Steps: 5, Strides: []int{1, 2}, Broken: []int{3}},
		"60s1,3,5,7,9":   {Steps: 60, Strides: []int{1, 3, 5, 7, 9}, Broken: []int{}},
		"12s2,9x1,10,11": {Steps: 12, Strides: []int{2, 9}, Broken: []int{1, 10, 11}},
	} {
		if got, ok := impl.StairsText(s); got != text || !ok {
			t.Errorf("text of %v: got %q, %v", s, got, ok)
		}
		got, ok := impl.ParseStairs(text)
		if !ok || got.Steps != s.Steps || !slices.Equal(got.Strides, s.Strides) || !slices.Equal(got.Broken, s.Broken) {
			t.Errorf("stairs of %q: got %v, %v", text, got, ok)
		}
	}
	for _, s := range oddStairs() {
		if got, ok := impl.StairsText(s); got != "" || ok {
			t.Errorf("text of %v: got %q, %v", s, got, ok)
		}
	}
	for _, text := range oddTexts() {
		got, ok := impl.ParseStairs(text)
		wantStairs(t, text, got, ok, "")
	}
}

func oddTexts() []string {
	return []string{
		"", "s", "x", "5", "5s", "s1", "5s1x", "5s1,", "5s,1", "5s1,,2", "5s1x3,", "5s1x,3", "5sx3", "5x3", "5x3s1",
		"05s1", "5s01", "5s1x03", "+5s1", "5s+1", "5s1x+3", "-5s1", "5s-1", "5s1x-3", " 5s1", "5s1 ", "5s1, 2", "5s1\n",
		"5S1", "5s1X3", "5s1s2", "5s1x2x3", "5s1;2", "5s1.0", "0s1", "61s1", "5s0", "5s10", "5s2,1", "5s1,1", "5s1,2,3,4,5,6",
		"5s1x0", "5s1x5", "5s1x6", "5s1x3,2", "5s1x3,3", "1s1x1", "5s1x", "0x5s1", "5s1_0", "5_0s1", "5e0s1", "\x00", "\xff\xfe",
		"99999999999999999999s1", "5s99999999999999999999", "18446744073709551621s1", "5s1,2x18446744073709551619",
		"٥s1", strings.Repeat("1", 100000), "5s" + strings.Repeat("1,", 100000) + "1", strings.Repeat(",", 100000),
	}
}

func TestCountsAtTheLimit(t *testing.T) {
	n, ok := impl.CountClimbs(stairs(t, "60s1,2"))
	wantNumber(t, "count", n, ok, 2504730781961)
	n, ok = impl.CountClimbs(stairs(t, "60s1"))
	wantNumber(t, "count", n, ok, 1)

	s := stairs(t, almostTooMany)
	const all = 999999999511786
	n, ok = impl.CountClimbs(s)
	wantNumber(t, "count", n, ok, all)
	n, ok = impl.ClimbsThrough(s, 60)
	wantNumber(t, "through the top", n, ok, all)
	last, ok := impl.ClimbOfRank(s, all-1)
	n, fine := impl.RankOfClimb(s, last)
	wantNumber(t, "rank of the last one", n, ok && fine, all-1)
	list, ok := impl.NextClimb(s, last)
	wantNoList(t, "next to the last one", list, ok)
	list, ok = impl.ClimbOfRank(s, all)
	wantNoList(t, "beyond the last one", list, ok)
	sum := 0
	for many := range 61 {
		n, ok := impl.CountByStrides(s, many)
		if !ok {
			t.Fatal("by strides fails at", many)
		}
		sum += n
	}
	wantNumber(t, "all by strides", sum, true, all)
}

func TestTooManyClimbs(t *testing.T) {
	for _, text := range []string{justTooMany, "60s1,2,3,4,5", "60s1,2,3,4,9"} {
		s := stairs(t, text)
		first, ok := impl.FirstClimb(s)
		if is, fine := impl.IsClimb(s, first); !is || !fine || !ok {
			t.Error(text, "first", first)
		}
		n, ok := impl.CountClimbs(s)
		wantNoNumber(t, text+" count", n, ok)
		n, ok = impl.RankOfClimb(s, first)
		wantNoNumber(t, text+" rank", n, ok)
		n, ok = impl.CountByStrides(s, 30)
		wantNoNumber(t, text+" by strides", n, ok)
		n, ok = impl.CountByStrides(s, 61)
		wantNoNumber(t, text+" by strides", n, ok)
		n, ok = impl.ClimbsThrough(s, 1)
		wantNoNumber(t, text+" through", n, ok)
		list, ok := impl.ClimbOfRank(s, 0)
		wantNoList(t, text+" climb", list, ok)
		list, ok = impl.NextClimb(s, first)
		wantNoList(t, text+" next", list, ok)
		if step, many, ok := impl.WorstToBreak(s); step != 0 || many != 0 || ok {
			t.Error(text, "worst", step, many, ok)
		}
	}
}

func TestWhatTooManyClimbsDoNotHinder(t *testing.T) {
	s := stairs(t, "60s1,2,3,4,5")
	list, ok := impl.FirstClimb(s)
	wantList(t, "first", list, ok, slices.Repeat([]int{1}, 60)...)
	list, ok = impl.FirstFewest(s)
	wantList(t, "first fewest", list, ok, slices.Repeat([]int{5}, 12)...)
	n, ok := impl.FewestStrides(s)
	wantNumber(t, "fewest", n, ok, 12)
	n, ok = impl.MostStrides(s)
	wantNumber(t, "most", n, ok, 60)
	list, ok = impl.ReachedSteps(s)
	wantList(t, "reached", list, ok, upTo(60)...)
	list, ok = impl.StuckSteps(s)
	wantList(t, "stuck", list, ok)
	list, ok = impl.NeededSteps(s)
	wantList(t, "needed", list, ok, 60)
	list, ok = impl.StepsOfClimb(s, slices.Repeat([]int{5}, 12))
	wantList(t, "steps", list, ok, 5, 10, 15, 20, 25, 30, 35, 40, 45, 50, 55, 60)
	got, ok := impl.BreakStep(s, 59)
	wantStairs(t, "break", got, ok, "60s1,2,3,4,5x59")
	got, ok = impl.TurnStairs(stairs(t, justTooMany))
	wantStairs(t, "turn", got, ok, "60s1,2,3,4,5x7,24,41,42,48,58,59")
}
