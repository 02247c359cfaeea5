package tests

import (
	"math"
	"slices"
	"strings"
	"testing"

	"loop.example/g01374/impl"
)

// strong are as many bears as there may be, and as great.
func strong() []int { return slices.Repeat([]int{impl.MaxBear}, impl.MaxWorn) }

func TestWearAtTheLimits(t *testing.T) {
	if impl.MaxWorn != 20 || impl.MaxBear != 100 || impl.MaxWearClimbs != 1000000000000 {
		t.Error("other limits than the document's")
	}
	n, ok := impl.MostWears(strong(), impl.MaxWorn)
	wantNumber(t, "most", n, ok, 2000)
	days, left, ok := impl.DaysOfWear(strong(), 19, 1000)
	wantNumber(t, "days", days, ok, 1)
	wantNumber(t, "left", left, ok, 900)
	n, ok = impl.ReachForWears(strong(), 1000)
	wantNumber(t, "reach", n, ok, 10)
	n, ok = impl.ReachForWears(strong(), 901)
	wantNumber(t, "reach", n, ok, 10)
	n, ok = impl.ReachForWears(strong(), 900)
	wantNumber(t, "reach", n, ok, 9)
	// There is no reach of 21, and yet it is told.
	n, ok = impl.ReachForWears(make([]int, impl.MaxWorn), 1)
	wantNumber(t, "reach", n, ok, impl.MaxWorn+1)
	n, ok = impl.MendSum(make([]int, impl.MaxWorn), 1, 1000)
	wantNumber(t, "mend", n, ok, 20000)
	// A step may bear more than MaxBear behind a mend; then they are bears no more.
	list, ok := impl.LateMend([]int{0, 0}, 2, 1000)
	wantList(t, "late", list, ok, 0, 1000)
	list, ok = impl.LateMend([]int{100, 100, 100}, 2, 201)
	wantList(t, "late", list, ok, 100, 101, 100)
	list, ok = impl.LateMend(strong(), impl.MaxWorn, 0)
	wantList(t, "late", list, ok, strong()...)
}

// The limit of CountWearClimbs lies beyond all counts that there are: 20 steps leave no more than these.
func TestMostClimbsOfAll(t *testing.T) {
	n, ok := impl.CountWearClimbs(strong(), impl.MaxWorn)
	wantNumber(t, "count", n, ok, 1<<20-1)
	n, ok = impl.CountWearClimbs(strong()[1:], impl.MaxWorn)
	wantNumber(t, "count", n, ok, 1<<19)
	n, ok = impl.CountWearClimbs(strong(), 1)
	wantNumber(t, "count", n, ok, 1)
	n, ok = impl.CountWearClimbs(strong(), 2)
	wantNumber(t, "count", n, ok, 17711)
	list, ok := impl.FirstWearClimb(strong(), 7)
	wantList(t, "first", list, ok, upTo(14)...)
	n, ok = impl.FewestOnWear(strong(), 7)
	wantNumber(t, "fewest", n, ok, 2)
	n, ok = impl.FewestOnWear(strong(), 1)
	wantNumber(t, "fewest", n, ok, 20)
}

func TestNumbersBeyondTheLimitsOfWear(t *testing.T) {
	b := bears(t, "3-0-2-1")
	for _, climbs := range []int{math.MinInt, -1, 1001, math.MaxInt} {
		n, ok := impl.ReachForWears(b, climbs)
		wantNoNumber(t, "reach", n, ok)
		n, ok = impl.MendSum(b, 2, climbs)
		wantNoNumber(t, "mend", n, ok)
		list, ok := impl.LateMend(b, 2, climbs)
		wantNoList(t, "late", list, ok)
	}
	for _, each := range []int{math.MinInt, -1, 0, 1001, math.MaxInt} {
		days, left, ok := impl.DaysOfWear(b, 2, each)
		wantNoNumber(t, "days", days, ok)
		wantNoNumber(t, "left", left, ok)
	}
	days, left, ok := impl.DaysOfWear(b, 4, 1000)
	wantNumber(t, "days", days, ok, 0)
	wantNumber(t, "left", left, ok, 6)
	days, left, ok = impl.DaysOfWear(b, 4, 4)
	wantNumber(t, "days", days, ok, 1)
	wantNumber(t, "left", left, ok, 2)
}

func TestTextsOfBears(t *testing.T) {
	for text, want := range map[string][]int{
		"0": {0}, "100": {100}, "3-0-2-1": {3, 0, 2, 1}, "10-100-0": {10, 100, 0},
		strings.Repeat("100-", 19) + "100": strong(),
	} {
		list, ok := impl.ParseBears(text)
		wantList(t, text, list, ok, want...)
		again, ok := impl.BearsText(want)
		if !ok || again != text {
			t.Errorf("%v: got %q, %v, want %q", want, again, ok, text)
		}
	}
	for _, b := range oddBears() {
		if text, ok := impl.BearsText(b); ok || text != "" {
			t.Errorf("%v have the text %q, %v", b, text, ok)
		}
	}
}

// oddBearsTexts returns texts of which none tells bears.
func oddBearsTexts() []string {
	return []string{
		"", "-", "--", "3-", "-3", "3--1", "-3-0", "3-0-", "03", "3-00", "+3", "3-+1", "3 -0", " 3", "3\n", "3,0", "3_0", "3e0", "0x3", "x",
		"101", "3-101", "99999999999999999999", "18446744073709551619", "3-9223372036854775808", "٣", "3\x00", "\xff",
		strings.Repeat("1-", 20) + "1", strings.Repeat("1-", 100000) + "1", strings.Repeat("1", 100000), strings.Repeat("-", 100000),
	}
}
