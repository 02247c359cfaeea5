package tests

import (
	"math"
	"slices"
	"strings"
	"testing"

	"loop.example/g01374/impl"
)

// longestRolls returns as many rolls as there may be, as long as they may be.
func longestRolls() []int { return slices.Repeat([]int{impl.MaxRoll}, impl.MaxRolls) }

func shortestRolls() []int { return slices.Repeat([]int{1}, impl.MaxRolls) }

func TestRollsAtTheLimits(t *testing.T) {
	for _, c := range [][4]int{
		{1, 1, 1, 0}, {1, 2, 0, 1}, {1, 100, 0, 1}, {2000, 1, 2000, 0}, {2000, 100, 20, 0}, {2000, 99, 20, 20}, {1999, 100, 19, 99}, {1999, 1, 1999, 0}, {100, 100, 1, 0}, {99, 100, 0, 99}, {101, 100, 1, 1},
	} {
		wantTwo(t, "roll", tell(impl.StepsOfRoll(c[0], c[1])), c[2], c[3])
		wantTogether(t, []int{c[0]}, c[1], c[2], c[3])
		wantTogether(t, slices.Repeat([]int{c[0]}, 8), c[1], 8*c[2], 8*c[3])
	}
	for _, need := range beyond(1, impl.MaxNeed) {
		wantNotTwo(t, "roll", tell(impl.StepsOfRoll(100, need)))
		n, ok := impl.StepsOfRolls([]int{100}, need)
		wantNoNumber(t, "steps", n, ok)
		n, ok = impl.RestOfRolls([]int{100}, need)
		wantNoNumber(t, "rest", n, ok)
		wantNotCovered(t, []int{100}, 1, need)
		wantNotCovered(t, longestRolls(), 100, need)
	}
	for _, roll := range beyond(1, impl.MaxRoll) {
		for _, need := range []int{1, 20, 100} {
			wantNotTwo(t, "roll", tell(impl.StepsOfRoll(roll, need)))
		}
	}
	for _, steps := range beyond(1, impl.MaxCover) {
		wantNotCovered(t, []int{100}, steps, 1)
		wantNotCovered(t, longestRolls(), steps, 1)
		wantGreatest(t, []int{100}, steps, 0)
		wantGreatest(t, longestRolls(), steps, 0)
	}
}

func TestMostRolls(t *testing.T) {
	r := longestRolls()
	wantChosen(t, r, 1, 100, []int{0}, []int{0})
	wantChosen(t, r, 20, 100, []int{0}, []int{0})
	wantChosen(t, r, 21, 100, []int{0, 1}, []int{0, 1})
	wantChosen(t, r, 100, 100, from0(4), from0(4))
	wantChosen(t, r, 100, 1, []int{0}, []int{0})
	wantPlan(t, r, 100, 1, strings.Repeat("0", 100))
	wantPlan(t, r, 100, 100, strings.Repeat("0", 20)+strings.Repeat("1", 20)+strings.Repeat("2", 20)+strings.Repeat("3", 20)+strings.Repeat("4", 20), 21, 41, 61, 81)
	wantGreatest(t, r, 1, 100)
	wantGreatest(t, r, 100, 100)

	r = shortestRolls()
	wantTogether(t, r, 1, 8, 0)
	wantTogether(t, r, 2, 0, 8)
	for steps := 1; steps <= 8; steps++ {
		wantChosen(t, r, steps, 1, from0(steps-1), from0(steps-1))
		wantPlan(t, r, steps, 1, "01234567"[:steps], upTo(steps)[1:]...)
		wantNotCovered(t, r, steps, 2)
		wantGreatest(t, r, steps, 1)
	}
	wantNotCovered(t, r, 9, 1)
	wantGreatest(t, r, 9, 0)
	// All of them are needed, though one is by far the longest.
	r = append(shortestRolls()[:7], 93)
	wantChosen(t, r, 100, 1, from0(7), from0(7))
	wantChosen(t, r, 99, 1, []int{0, 1, 2, 3, 4, 5, 7}, []int{0, 1, 2, 3, 4, 5, 7})
	wantChosen(t, r, 7, 1, []int{7}, from0(6))
	wantChosen(t, r, 8, 1, []int{7}, []int{7})
	wantGreatest(t, r, 100, 1)
	r[0] = 2
	wantNotCovered(t, r, 100, 2)
	r[7] = 91
	wantChosen(t, r, 99, 1, from0(7), from0(7))
	wantNotCovered(t, r, 100, 1)
	wantGreatest(t, r, 100, 0)
}

// Rolls that cover just so many steps, and rolls that cover one step less.
func TestRollsThatAreJustEnough(t *testing.T) {
	r := []int{500, 700, 800}
	wantTogether(t, r, 20, 100, 0)
	wantChosen(t, r, 100, 20, from0(2), from0(2))
	wantPlan(t, r, 100, 20, strings.Repeat("0", 25)+strings.Repeat("1", 35)+strings.Repeat("2", 40), 26, 61)
	wantGreatest(t, r, 100, 20)
	for less := range r {
		r[less]--
		wantTogether(t, r, 20, 99, 19)
		wantNotCovered(t, r, 100, 20)
		wantChosen(t, r, 99, 20, from0(2), from0(2))
		wantGreatest(t, r, 99, 20)
		wantGreatest(t, r, 100, 19)
		r[less]++
	}
	wantChosen(t, []int{20}, 1, 20, []int{0}, []int{0})
	wantNotCovered(t, []int{19}, 1, 20)
	wantChosen(t, []int{40, 20}, 3, 20, []int{0, 1}, []int{0, 1})
	wantNotCovered(t, []int{39, 20}, 3, 20)
	wantNotCovered(t, []int{39, 39, 39}, 4, 20)
}

func TestPlansBeyondTheLimits(t *testing.T) {
	for _, plan := range oddPlans() {
		list, ok := impl.JoinsOfPlan(plan)
		wantNoList(t, "joins", list, ok)
	}
	for _, roll := range []int{0, 7} {
		list, ok := impl.JoinsOfPlan([]int{roll})
		wantList(t, "joins", list, ok)
		list, ok = impl.JoinsOfPlan(slices.Repeat([]int{roll}, 100))
		wantList(t, "joins", list, ok)
	}
}

// oddPlans returns lists that are no plans.
func oddPlans() [][]int {
	return [][]int{
		nil, {}, {-1}, {8}, {0, 8}, {-1, 0}, {0, -1}, {0, 0, 9, 0}, {math.MaxInt}, {math.MinInt}, {0, math.MinInt + 1}, {1 << 32}, make([]int, 101), slices.Repeat([]int{7}, 101), make([]int, 100000),
		append(make([]int, 99), 8), append([]int{-1}, make([]int, 99)...),
	}
}

func TestPatternsAtTheLimits(t *testing.T) {
	for _, c := range [][3]int{{1, 1, 1}, {1, 2000, 1}, {100, 1, 0}, {100, 2000, 0}, {100, 1999, 1}, {99, 2000, 2}, {7, 30, 3}} {
		list, ok := impl.PatternStarts(100, c[0], c[1])
		if !ok || len(list) != 100 || list[99] != 99*c[0]%c[1] || list[0] != 0 {
			t.Errorf("starts of %v: got %v, %v", c, list, ok)
		}
	}
	list, ok := impl.WholeStarts(100, 100, 2000)
	wantList(t, "whole starts", list, ok, 1, 21, 41, 61, 81)
	list, ok = impl.WholeStarts(100, 20, 2000)
	wantList(t, "whole starts", list, ok, 1)
	list, ok = impl.WholeStarts(100, 1, 99)
	wantList(t, "whole starts", list, ok, 1, 100)
	list, ok = impl.WholeStarts(100, 1, 100)
	wantList(t, "whole starts", list, ok, 1)
	list, ok = impl.WholeStarts(100, 100, 1)
	wantList(t, "whole starts", list, ok, upTo(100)...)
	list, ok = impl.WholeStarts(1, 99, 2000)
	wantList(t, "whole starts", list, ok, 1)
	for _, steps := range beyond(1, impl.MaxCover) {
		wantNoPattern(t, steps, 20, 16)
	}
	for _, need := range beyond(1, impl.MaxNeed) {
		wantNoPattern(t, 4, need, 16)
		wantNotTwo(t, "with pattern", tell(impl.WithPattern(need, 16)))
		n, ok := impl.PatternPeriod(need, 16)
		wantNoNumber(t, "period", n, ok)
	}
	for _, pattern := range beyond(1, impl.MaxRoll) {
		wantNoPattern(t, 4, 20, pattern)
		wantNotTwo(t, "with pattern", tell(impl.WithPattern(20, pattern)))
		n, ok := impl.PatternPeriod(20, pattern)
		wantNoNumber(t, "period", n, ok)
	}
}

// wantNoPattern wants the calls to fail that ask where a pattern begins on steps.
func wantNoPattern(t *testing.T, steps int, need int, pattern int) {
	t.Helper()
	list, ok := impl.PatternStarts(steps, need, pattern)
	wantNoList(t, "starts", list, ok)
	list, ok = impl.WholeStarts(steps, need, pattern)
	wantNoList(t, "whole starts", list, ok)
}

func TestStripesAtTheLimits(t *testing.T) {
	// The carpet goes on as far as the last step does, farther than any roll.
	for _, c := range []struct {
		stripes          string
		wide, need, step int
		want             string
	}{
		{"abcdefghij", 100, 100, 100, "j"}, {"abcdefghij", 100, 100, 1, "a"}, {"abc", 100, 100, 21, "c"}, {"abc", 100, 100, 20, "b"}, {"abc", 100, 99, 100, "c"}, {"abc", 100, 1, 100, "a"}, {"abc", 99, 1, 100, "b"},
		{"abcdefghij", 1, 100, 100, strings.Repeat("abcdefghij", 10)}, {"abc", 1, 100, 100, strings.Repeat("abc", 33) + "a"}, {"abc", 1, 100, 2, strings.Repeat("bca", 33) + "b"}, {"z", 1, 1, 100, "z"},
		{"abc", 1, 1, 100, "a"}, {"abc", 8, 20, 100, "bca"},
	} {
		got, ok := impl.ColoursOfStep(c.stripes, c.wide, c.need, c.step)
		wantText(t, "colours", got, ok, c.want)
	}
	list, ok := impl.AlikeSteps("abcdefghij", 100, 100, 100)
	wantList(t, "alike", list, ok, 11, 21, 31, 41, 51, 61, 71, 81, 91)
	list, ok = impl.AlikeSteps("abc", 99, 1, 100)
	wantList(t, "alike", list, ok, upTo(99)[1:]...)
	list, ok = impl.AlikeSteps("a", 1, 100, 100)
	wantList(t, "alike", list, ok, upTo(100)[1:]...)
	list, ok = impl.AlikeSteps("ab", 100, 99, 99)
	wantList(t, "alike", list, ok)
	list, ok = impl.AlikeSteps("ab", 100, 99, 100)
	wantList(t, "alike", list, ok, 100)
	for _, wide := range beyond(1, impl.MaxNeed) {
		wantNoColour(t, "abc", wide, 0)
		wantNoStripes(t, "abc", wide, 20, 2)
	}
	for _, place := range beyond(0, impl.MaxRoll) {
		wantNoColour(t, "abc", 8, place)
	}
	for _, need := range beyond(1, impl.MaxNeed) {
		wantNoStripes(t, "abc", 8, need, 2)
	}
	for _, step := range beyond(1, impl.MaxCover) {
		wantNoStripes(t, "abc", 8, 20, step)
	}
	for _, stripes := range oddStripes() {
		wantNoColour(t, stripes, 8, 0)
		wantNoStripes(t, stripes, 8, 20, 2)
	}
}

func wantNoColour(t *testing.T, stripes string, wide int, place int) {
	t.Helper()
	if got, ok := impl.ColourAt(stripes, wide, place); ok || got != "" {
		t.Errorf("colour of %q, %d wide, at %d: got %q, %v, want it to fail", stripes, wide, place, got, ok)
	}
}

// wantNoStripes wants the calls to fail that ask for stripes on steps.
func wantNoStripes(t *testing.T, stripes string, wide int, need int, steps int) {
	t.Helper()
	if got, ok := impl.ColoursOfStep(stripes, wide, need, steps); ok || got != "" {
		t.Errorf("colours of %q, %d wide, on %d: got %q, %v, want it to fail", stripes, wide, steps, got, ok)
	}
	list, ok := impl.AlikeSteps(stripes, wide, need, steps)
	wantNoList(t, "alike", list, ok)
}

func TestTextsOfRolls(t *testing.T) {
	for text, want := range map[string][]int{
		"1": {1}, "2000": {2000}, "100+70+45": {100, 70, 45}, "70+70": {70, 70}, "1+2000": {1, 2000}, "10+100+1000": {10, 100, 1000},
		strings.Repeat("2000+", 7) + "2000": longestRolls(), "1+1+1+1+1+1+1+1": shortestRolls(),
	} {
		r, ok := impl.ParseRolls(text)
		wantList(t, text, r, ok, want...)
		again, ok := impl.RollsText(want)
		wantText(t, "text", again, ok, text)
	}
	for _, r := range oddRolls() {
		if text, ok := impl.RollsText(r); ok || text != "" {
			t.Errorf("%v have the text %q, %v", r, text, ok)
		}
	}
	for _, text := range oddRollsTexts() {
		r, ok := impl.ParseRolls(text)
		wantNoList(t, text, r, ok)
	}
}

// oddRollsTexts returns texts of which none tells rolls.
func oddRollsTexts() []string {
	return []string{
		"", "+", "1+", "+1", "++1", "1++2", "+1+2", "1+2+", "1+ 2", "1 +2", " 1", "1 ", "1\n", "1+2\n", "\n1", "0", "00", "-0", "01", "1+02", "0100+70", "-1", "1+-2", "1-2", "1,2", "1;2", "1.0", "1+2.0",
		"1e1", "0x1", "1_0", "1+x", "x", "1x", "1+2x", "1+0", "0+1", "2001", "1+2001", "2001+1", "20000", "99999999999999999999", "18446744073709551617", "1+18446744073709551617",
		"9223372036854775807", "-9223372036854775808", "٤", "1\x00", "\x00", "\xff", "1+\xff", "1+1+1+1+1+1+1+1+1", strings.Repeat("1+", 100000) + "1", strings.Repeat("1", 100000),
		strings.Repeat("0", 100000), strings.Repeat("+", 100000), "1+" + strings.Repeat("0", 100000) + "1",
	}
}
