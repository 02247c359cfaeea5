package tests

import (
	"math"
	"slices"
	"strings"
	"testing"

	"loop.example/g01374/impl"
)

// rolls returns the rolls with a text that is known to tell some.
func rolls(t *testing.T, text string) []int {
	t.Helper()
	r, ok := impl.ParseRolls(text)
	if !ok {
		t.Fatalf("ParseRolls(%q) fails", text)
	}
	return r
}

// oddRolls returns lists of which none are rolls.
func oddRolls() [][]int {
	return [][]int{
		nil, {}, {0}, {-1}, {impl.MaxRoll + 1}, {100, 70, 0}, {0, 100}, {100, -45, 70}, {100, 2001}, {2001, 1}, {math.MaxInt}, {math.MinInt},
		{math.MaxInt, math.MaxInt}, {100, math.MinInt + 1}, {1 << 32}, make([]int, 8), slices.Repeat([]int{100}, impl.MaxRolls+1), slices.Repeat([]int{1}, 1000),
	}
}

// oddStripes returns texts of which none tells a striped carpet.
func oddStripes() []string {
	return []string{
		"", " ", "A", "Z", "aB", "Ab", "abC", "0", "a1", "1a", "a b", " a", "a ", "a\n", "\na", "a,b", "a-b", "`", "{", "a`", "a{", "@", "[", "ä", "aé", "éa", "ａ", "а", "\x00", "a\x00",
		"\xff", "a\xff", "\xe1", "abcdefghijk", "aaaaaaaaaaa", "zzzzzzzzzzz", "abcdefghi\xff", "ééééé", "aaaaaaaaaé", strings.Repeat("a", 100000), strings.Repeat("\x80", 5),
	}
}

// wantChosen holds the first list of the fewest rolls that cover so many steps, and the first one of the least length together.
func wantChosen(t *testing.T, r []int, steps int, need int, fewest []int, least []int) {
	t.Helper()
	n, ok := impl.FewestRolls(r, steps, need)
	wantNumber(t, "fewest rolls", n, ok, len(fewest))
	list, ok := impl.FirstRolls(r, steps, need)
	wantList(t, "first rolls", list, ok, fewest...)
	long := 0
	for _, roll := range least {
		long += r[roll]
	}
	n, ok = impl.LeastLength(r, steps, need)
	wantNumber(t, "least length", n, ok, long)
	list, ok = impl.RollsOfLeast(r, steps, need)
	wantList(t, "rolls of least", list, ok, least...)
}

// wantNotCovered wants all calls to fail that ask the rolls to cover so many steps.
func wantNotCovered(t *testing.T, r []int, steps int, need int) {
	t.Helper()
	for _, call := range []func([]int, int, int) (int, bool){impl.FewestRolls, impl.LeastLength} {
		n, ok := call(r, steps, need)
		wantNoNumber(t, "number", n, ok)
	}
	for _, call := range []func([]int, int, int) ([]int, bool){impl.FirstRolls, impl.RollsOfLeast, impl.CoverPlan} {
		list, ok := call(r, steps, need)
		wantNoList(t, "list", list, ok)
	}
}

// wantPlan holds a plan, each roll told by its digit, that of the step 1 first, and its joins.
func wantPlan(t *testing.T, r []int, steps int, need int, want string, joins ...int) {
	t.Helper()
	list, ok := impl.CoverPlan(r, steps, need)
	wantList(t, "plan", list, ok, planned(want)...)
	list, ok = impl.JoinsOfPlan(list)
	wantList(t, "joins", list, ok, joins...)
}

// planned returns the plan that is told by digits.
func planned(digits string) []int {
	var plan []int
	for _, digit := range digits {
		plan = append(plan, int(digit-'0'))
	}
	return plan
}

// wantTogether holds how many steps all rolls cover, and what is left.
func wantTogether(t *testing.T, r []int, need int, steps int, rest int) {
	t.Helper()
	n, ok := impl.StepsOfRolls(r, need)
	wantNumber(t, "steps", n, ok, steps)
	n, ok = impl.RestOfRolls(r, need)
	wantNumber(t, "rest", n, ok, rest)
}

// wantGreatest holds GreatestNeed, and wants it to fail if it is to be 0.
func wantGreatest(t *testing.T, r []int, steps int, want int) {
	t.Helper()
	n, ok := impl.GreatestNeed(r, steps)
	if want == 0 {
		wantNoNumber(t, "greatest need", n, ok)
	} else {
		wantNumber(t, "greatest need", n, ok, want)
	}
}

// wantStarts holds where a pattern begins on steps.
func wantStarts(t *testing.T, need int, pattern int, want ...int) {
	t.Helper()
	list, ok := impl.PatternStarts(len(want), need, pattern)
	wantList(t, "starts", list, ok, want...)
	var whole []int
	for i, start := range want {
		if start == 0 {
			whole = append(whole, i+1)
		}
	}
	list, ok = impl.WholeStarts(len(want), need, pattern)
	wantList(t, "whole starts", list, ok, whole...)
}

// wantColours holds the colours of the steps from 1 on.
func wantColours(t *testing.T, stripes string, wide int, need int, want ...string) {
	t.Helper()
	for i, colours := range want {
		got, ok := impl.ColoursOfStep(stripes, wide, need, i+1)
		wantText(t, "colours", got, ok, colours)
	}
}

func TestAreRolls(t *testing.T) {
	if impl.MaxCover != 100 || impl.MaxRolls != 8 || impl.MaxRoll != 2000 || impl.MaxNeed != 100 {
		t.Error("other limits than the document's")
	}
	for _, r := range [][]int{{1}, {2000}, {1, 2000}, {70, 70}, {100, 70, 45}, slices.Repeat([]int{2000}, 8), slices.Repeat([]int{1}, 8)} {
		if !impl.AreRolls(r) {
			t.Errorf("%v are rolls", r)
		}
	}
	for _, r := range oddRolls() {
		if impl.AreRolls(r) {
			t.Errorf("%v are no rolls", r)
		}
	}
}

func TestExampleOfRolls(t *testing.T) {
	r := rolls(t, "100+70+45")
	wantList(t, "parsed", r, true, 100, 70, 45)
	wantTwo(t, "roll", tell(impl.StepsOfRoll(100, 20)), 5, 0)
	wantTwo(t, "roll", tell(impl.StepsOfRoll(70, 20)), 3, 10)
	wantTwo(t, "roll", tell(impl.StepsOfRoll(45, 20)), 2, 5)
	wantTogether(t, r, 20, 10, 15)
	wantChosen(t, r, 7, 20, []int{0, 1}, []int{0, 2})
	wantPlan(t, r, 7, 20, "0000011", 6)
	wantGreatest(t, r, 10, 20)
}

func TestExampleOfPatterns(t *testing.T) {
	wantTwo(t, "with pattern", tell(impl.WithPattern(20, 16)), 32, 12)
	wantStarts(t, 20, 16, 0, 4, 8, 12)
	wantStarts(t, 20, 16, 0, 4, 8, 12, 0, 4, 8, 12, 0, 4)
	n, ok := impl.PatternPeriod(20, 16)
	wantNumber(t, "period", n, ok, 4)
}

func TestExampleOfStripes(t *testing.T) {
	wantColours(t, "abc", 8, 20, "abc", "cab", "cab", "bca", "bca", "abc", "abc")
	list, ok := impl.AlikeSteps("abc", 8, 20, 9)
	wantList(t, "alike", list, ok, 7)
}

// The rolls cover 2, 0, 4, 1, 0 and 3 steps.
func TestOrdinaryRolls(t *testing.T) {
	r := rolls(t, "70+29+149+30+1+90")
	wantTogether(t, r, 30, 10, 69)
	for _, c := range []struct {
		steps  int
		fewest []int
		least  []int
		plan   string
		joins  []int
	}{
		{1, []int{0}, []int{3}, "0", nil},
		{2, []int{0}, []int{0}, "00", nil},
		{3, []int{2}, []int{5}, "002", []int{3}},
		{4, []int{2}, []int{3, 5}, "0022", []int{3}},
		{5, []int{0, 2}, []int{0, 5}, "00222", []int{3}},
		{6, []int{0, 2}, []int{0, 3, 5}, "002222", []int{3}},
		{7, []int{2, 5}, []int{2, 5}, "0022223", []int{3, 7}},
		{8, []int{0, 2, 5}, []int{2, 3, 5}, "00222235", []int{3, 7, 8}},
		{9, []int{0, 2, 5}, []int{0, 2, 5}, "002222355", []int{3, 7, 8}},
		{10, []int{0, 2, 3, 5}, []int{0, 2, 3, 5}, "0022223555", []int{3, 7, 8}},
	} {
		wantChosen(t, r, c.steps, 30, c.fewest, c.least)
		wantPlan(t, r, c.steps, 30, c.plan, c.joins...)
	}
	wantNotCovered(t, r, 11, 30)
	wantNotCovered(t, r, 100, 30)
	for steps, need := range []int{100, 90, 74, 70, 49, 45, 37, 35, 30, 30, 29, 29} {
		wantGreatest(t, r, steps+1, need)
	}
}

func TestOneRoll(t *testing.T) {
	r := rolls(t, "45")
	wantTogether(t, r, 20, 2, 5)
	wantChosen(t, r, 1, 20, []int{0}, []int{0})
	wantChosen(t, r, 2, 20, []int{0}, []int{0})
	wantPlan(t, r, 1, 20, "0")
	wantPlan(t, r, 2, 20, "00")
	wantNotCovered(t, r, 3, 20)
	wantTogether(t, r, 45, 1, 0)
	wantChosen(t, r, 1, 45, []int{0}, []int{0})
	// It covers no step.
	wantTogether(t, r, 46, 0, 45)
	wantNotCovered(t, r, 1, 46)
	for steps, need := range map[int]int{1: 45, 2: 22, 3: 15, 4: 11, 22: 2, 23: 1, 45: 1, 46: 0, 100: 0} {
		wantGreatest(t, r, steps, need)
	}
}

// All together are long enough, but no one of them is.
func TestRollsThatCoverNoStep(t *testing.T) {
	for _, r := range [][]int{{1}, {19}, {19, 19}, slices.Repeat([]int{19}, 8), {1, 2, 3, 4, 5, 6, 7, 19}} {
		wantTogether(t, r, 20, 0, total(r))
		for _, steps := range []int{1, 2, 100} {
			wantNotCovered(t, r, steps, 20)
		}
	}
	wantTwo(t, "roll", tell(impl.StepsOfRoll(19, 20)), 0, 19)
	wantTwo(t, "roll", tell(impl.StepsOfRoll(1, 2)), 0, 1)
	// They are passed by, wherever they stand.
	r := []int{19, 40, 19, 1, 20, 19}
	wantTogether(t, r, 20, 3, 58)
	wantChosen(t, r, 1, 20, []int{1}, []int{4})
	wantChosen(t, r, 2, 20, []int{1}, []int{1})
	wantChosen(t, r, 3, 20, []int{1, 4}, []int{1, 4})
	wantPlan(t, r, 1, 20, "1")
	wantPlan(t, r, 3, 20, "114", 3)
	wantNotCovered(t, r, 4, 20)
}

func TestRollsOfOneLength(t *testing.T) {
	r := rolls(t, "70+70")
	wantTogether(t, r, 35, 4, 0)
	wantTogether(t, r, 30, 4, 20)
	wantChosen(t, r, 2, 35, []int{0}, []int{0})
	wantChosen(t, r, 3, 35, []int{0, 1}, []int{0, 1})
	wantPlan(t, r, 3, 35, "001", 3)
	wantNotCovered(t, r, 5, 35)
	r = slices.Repeat([]int{50}, 8)
	for steps := 1; steps <= 16; steps++ {
		list := from0((steps+1)/2 - 1)
		wantChosen(t, r, steps, 20, list, list)
	}
	wantPlan(t, r, 16, 20, "0011223344556677", 3, 5, 7, 9, 11, 13, 15)
	wantNotCovered(t, r, 17, 20)
}

// Several lists have the fewest rolls, or the least length: the first one is told.
func TestListsThatAreEquallyGood(t *testing.T) {
	for _, c := range []struct {
		text          string
		steps, need   int
		fewest, least []int
	}{
		{"40+60+60+80", 5, 20, []int{0, 1}, []int{0, 1}},
		{"40+60+60+80", 7, 20, []int{1, 3}, []int{1, 3}},
		{"40+60+60+80", 6, 20, []int{0, 3}, []int{0, 3}},
		// Two rolls are as short as one, and their list is before that one, or behind it.
		{"20+60+40", 3, 20, []int{1}, []int{0, 2}},
		{"60+20+40", 3, 20, []int{0}, []int{0}},
		{"30+30+60+10", 3, 20, []int{2}, []int{2}},
		{"20+20+60+20", 3, 20, []int{2}, []int{0, 1, 3}},
		{"20+40+20+60", 4, 20, []int{0, 3}, []int{0, 1, 2}},
		{"40+20+60+20", 4, 20, []int{0, 2}, []int{0, 1, 3}},
		// More rolls are shorter.
		{"99+40+40", 4, 20, []int{0}, []int{1, 2}},
		{"99+20+20+20+20", 4, 20, []int{0}, []int{1, 2, 3, 4}},
		// Fewer ones are.
		{"39+39+39+60", 3, 20, []int{3}, []int{3}},
		{"21+39+60", 4, 20, []int{0, 2}, []int{0, 2}},
		// As long, with more steps than are needed.
		{"45+25+40", 2, 20, []int{0}, []int{2}},
		{"59+40+20+20", 2, 20, []int{0}, []int{1}},
		{"79+20+59", 2, 20, []int{0}, []int{2}},
	} {
		wantChosen(t, rolls(t, c.text), c.steps, c.need, c.fewest, c.least)
	}
}

func TestGreatestNeeds(t *testing.T) {
	for _, c := range []struct {
		text        string
		steps, need int
	}{
		{"100", 1, 100}, {"101", 1, 100}, {"99", 1, 99}, {"2000", 1, 100}, {"2000", 20, 100}, {"2000", 21, 95}, {"2000", 100, 20}, {"1999", 20, 99}, {"1999", 100, 19},
		{"1", 1, 1}, {"1", 2, 0}, {"1+1", 2, 1}, {"1+1", 3, 0}, {"50+50", 2, 50}, {"50+50", 1, 50}, {"50+50", 3, 25}, {"50+49", 2, 49}, {"50+100", 2, 50}, {"100+100", 2, 100},
		{"99", 99, 1}, {"99", 100, 0}, {"100", 100, 1}, {"50+50", 100, 1}, {"50+49", 100, 0}, {"200", 100, 2}, {"199", 100, 1}, {"199+1", 100, 1}, {"198+2", 100, 2},
		// With 23 they cover 4, 3 and 1, with 22 they cover 4, 3 and 2.
		{"100+70+45", 8, 23}, {"100+70+45", 9, 22}, {"100+70+45", 11, 17}, {"100+70+45", 1, 100}, {"100+70+45", 2, 70},
	} {
		wantGreatest(t, rolls(t, c.text), c.steps, c.need)
	}
}

func TestJoins(t *testing.T) {
	for _, c := range []struct {
		plan  string
		joins []int
	}{
		{"0", nil}, {"7", nil}, {"00", nil}, {"77", nil}, {"01", []int{2}}, {"10", []int{2}}, {"70", []int{2}}, {"0000011", []int{6}},
		// Back to a roll that was used before.
		{"010", []int{2, 3}}, {"00110", []int{3, 5}}, {"0110", []int{2, 4}}, {"7070", []int{2, 3, 4}}, {"321123", []int{2, 3, 5, 6}}, {"001", []int{3}}, {"011", []int{2}},
	} {
		list, ok := impl.JoinsOfPlan(planned(c.plan))
		wantList(t, "joins of "+c.plan, list, ok, c.joins...)
	}
	list, ok := impl.JoinsOfPlan(make([]int, 100))
	wantList(t, "joins", list, ok)
	list, ok = impl.JoinsOfPlan(slices.Repeat([]int{0, 7}, 50))
	wantList(t, "joins", list, ok, upTo(100)[1:]...)
}

func TestPatternsOfSteps(t *testing.T) {
	for _, c := range []struct{ need, pattern, each, off, period int }{
		// Patterns that go into the need, that are as long, and of 1.
		{20, 10, 20, 0, 1}, {20, 4, 20, 0, 1}, {20, 20, 20, 0, 1}, {20, 1, 20, 0, 1}, {1, 1, 1, 0, 1}, {100, 100, 100, 0, 1}, {100, 1, 100, 0, 1},
		// Longer ones.
		{20, 21, 21, 1, 21}, {20, 40, 40, 20, 2}, {20, 30, 30, 10, 3}, {20, 2000, 2000, 1980, 100}, {1, 2000, 2000, 1999, 2000}, {100, 2000, 2000, 1900, 20}, {99, 2000, 2000, 1901, 2000},
		// Others.
		{20, 16, 32, 12, 4}, {20, 19, 38, 18, 19}, {20, 11, 22, 2, 11}, {20, 6, 24, 4, 3}, {20, 3, 21, 1, 3}, {100, 99, 198, 98, 99}, {99, 100, 100, 1, 100}, {100, 51, 102, 2, 51}, {100, 75, 150, 50, 3},
	} {
		wantTwo(t, "with pattern", tell(impl.WithPattern(c.need, c.pattern)), c.each, c.off)
		n, ok := impl.PatternPeriod(c.need, c.pattern)
		wantNumber(t, "period", n, ok, c.period)
	}
	wantStarts(t, 20, 10, 0, 0, 0, 0)
	wantStarts(t, 20, 20, 0, 0, 0, 0)
	wantStarts(t, 20, 1, 0, 0, 0)
	wantStarts(t, 20, 30, 0, 20, 10, 0, 20)
	wantStarts(t, 20, 40, 0, 20, 0, 20, 0)
	wantStarts(t, 20, 6, 0, 2, 4, 0, 2, 4, 0)
	wantStarts(t, 7, 5, 0, 2, 4, 1, 3, 0, 2)
	wantStarts(t, 5, 7, 0, 5, 3, 1, 6, 4, 2, 0)
	// It begins anew at no other step.
	wantStarts(t, 20, 100, 0, 20, 40, 60, 80)
	wantStarts(t, 20, 21, 0, 20, 19, 18)
	wantStarts(t, 20, 16, 0)
}

func TestIsStriped(t *testing.T) {
	for _, stripes := range []string{"a", "z", "m", "ab", "aa", "za", "abc", "abab", "abcdefghij", "qrstuvwxyz", "klmnop", "aaaaaaaaaa", "zzzzzzzzzz"} {
		if !impl.IsStriped(stripes) {
			t.Errorf("%q is striped", stripes)
		}
	}
	for _, stripes := range oddStripes() {
		if impl.IsStriped(stripes) {
			t.Errorf("%q is not striped", stripes)
		}
	}
}

func TestColoursAtPlaces(t *testing.T) {
	for _, c := range []struct {
		stripes     string
		wide, place int
		want        string
	}{
		{"abc", 8, 0, "a"}, {"abc", 8, 7, "a"}, {"abc", 8, 8, "b"}, {"abc", 8, 15, "b"}, {"abc", 8, 16, "c"}, {"abc", 8, 23, "c"}, {"abc", 8, 24, "a"}, {"abc", 8, 31, "a"}, {"abc", 8, 32, "b"},
		{"abc", 8, 2000, "b"}, {"abc", 8, 1999, "a"}, {"abc", 1, 0, "a"}, {"abc", 1, 1, "b"}, {"abc", 1, 2, "c"}, {"abc", 1, 3, "a"}, {"abc", 1, 2000, "c"}, {"abc", 100, 99, "a"},
		{"abc", 100, 100, "b"}, {"abc", 100, 2000, "c"}, {"abc", 100, 1999, "b"}, {"x", 1, 0, "x"}, {"x", 1, 2000, "x"}, {"x", 100, 2000, "x"}, {"aab", 10, 19, "a"}, {"aab", 10, 20, "b"},
		{"abcdefghij", 5, 45, "j"}, {"abcdefghij", 5, 49, "j"}, {"abcdefghij", 5, 50, "a"}, {"abcdefghij", 1, 2000, "a"}, {"abcdefghij", 1, 1999, "j"}, {"qrstuvwxyz", 100, 999, "z"},
	} {
		got, ok := impl.ColourAt(c.stripes, c.wide, c.place)
		wantText(t, "colour", got, ok, c.want)
	}
}

func TestColoursOfSteps(t *testing.T) {
	// Steps of one colour: within a stripe, of just one stripe, and of several ones of one colour.
	wantColours(t, "abc", 20, 20, "a", "b", "c", "a", "b")
	wantColours(t, "abc", 40, 20, "a", "a", "b", "b", "c", "c", "a")
	wantColours(t, "abc", 100, 1, "a", "a", "a")
	wantColours(t, "x", 100, 60, "x", "xx", "x", "xx", "x")
	wantColours(t, "x", 8, 20, "xxx", "xxx", "xxx", "xxx")
	wantColours(t, "aab", 8, 20, "aab", "baa", "baa", "aba")
	wantColours(t, "aba", 8, 24, "aba", "aba")
	wantColours(t, "aba", 8, 16, "ab", "aa", "ba", "ab")
	// One that ends where a stripe begins has no part of it, and one that is farther by 1 has.
	wantColours(t, "abcd", 5, 10, "ab", "cd", "ab")
	wantColours(t, "abcd", 5, 11, "abc", "cda", "abc", "cda", "abc", "dab")
	wantColours(t, "abcd", 5, 9, "ab", "bcd", "dab", "bcd")
	wantColours(t, "abcdefghij", 1, 3, "abc", "def", "ghi", "jab")
	wantColours(t, "abcdefghij", 1, 1, "a", "b", "c", "d", "e", "f", "g", "h", "i", "j", "a")
	wantColours(t, "abcdefghij", 1, 10, "abcdefghij", "abcdefghij")
}

func TestStepsThatAreAlike(t *testing.T) {
	for _, c := range []struct {
		stripes           string
		wide, need, steps int
		want              []int
	}{
		{"abc", 8, 20, 9, []int{7}}, {"abc", 8, 20, 6, nil}, {"abc", 8, 20, 7, []int{7}}, {"abc", 8, 20, 1, nil}, {"abc", 8, 20, 20, []int{7, 13, 19}},
		{"abc", 8, 24, 4, []int{2, 3, 4}}, {"abc", 8, 8, 7, []int{4, 7}}, {"abc", 1, 3, 3, []int{2, 3}}, {"abc", 1, 1, 7, []int{4, 7}}, {"x", 8, 20, 5, []int{2, 3, 4, 5}}, {"x", 1, 1, 2, []int{2}},
		// Within one stripe, and in stripes of one colour.
		{"ab", 40, 20, 8, []int{2, 5, 6}}, {"aab", 20, 20, 8, []int{2, 4, 5, 7, 8}}, {"aaab", 15, 20, 9, []int{2, 4, 5, 7, 8}}, {"aaab", 15, 20, 6, []int{2, 4, 5}}, {"abab", 5, 10, 4, []int{2, 3, 4}},
		{"aaaab", 10, 20, 10, []int{2, 4, 6, 7, 9}},
		// With the same colours in turn, but at other places, or the other way.
		{"ab", 8, 12, 4, nil}, {"ab", 8, 12, 5, []int{5}}, {"aab", 8, 12, 4, []int{3}}, {"abba", 10, 20, 4, []int{3}},
		// They differ at one place alone: the first one, or the last one.
		{"baaaaaaaaa", 1, 10, 3, []int{2, 3}}, {"aabaaaaaaa", 1, 5, 4, []int{3}}, {"aaaab", 2, 9, 3, nil}, {"aaaaaaaaab", 2, 19, 20, nil},
		{"aaaaaaaaab", 2, 9, 3, []int{2}}, {"aaaaaaaaab", 1, 10, 10, []int{2, 3, 4, 5, 6, 7, 8, 9, 10}}, {"aaaaaaaaab", 1, 3, 4, []int{2, 3}}, {"baaaaaaaaa", 1, 3, 4, nil},
		// None is like the first one.
		{"abcdefghij", 100, 99, 100, nil}, {"abcdefghij", 100, 100, 10, nil}, {"abcdefghij", 100, 100, 11, []int{11}},
	} {
		list, ok := impl.AlikeSteps(c.stripes, c.wide, c.need, c.steps)
		wantList(t, "alike by "+c.stripes, list, ok, c.want...)
	}
}
