package tests

import (
	"slices"
	"testing"

	"loop.example/g01374/impl"
)

// stairs returns the stairs with a text that is known to tell some.
func stairs(t *testing.T, text string) impl.Stairs {
	t.Helper()
	s, ok := impl.ParseStairs(text)
	if !ok {
		t.Fatalf("ParseStairs(%q) fails", text)
	}
	return s
}

func wantList(t *testing.T, what string, got []int, ok bool, want ...int) {
	t.Helper()
	if !ok || !slices.Equal(got, want) {
		t.Errorf("%s: got %v, %v, want %v", what, got, ok, want)
	}
}

func wantNumber(t *testing.T, what string, got int, ok bool, want int) {
	t.Helper()
	if !ok || got != want {
		t.Errorf("%s: got %d, %v, want %d", what, got, ok, want)
	}
}

func wantNoList(t *testing.T, what string, got []int, ok bool) {
	t.Helper()
	if ok || len(got) != 0 {
		t.Errorf("%s: got %v, %v, want it to fail", what, got, ok)
	}
}

func wantNoNumber(t *testing.T, what string, got int, ok bool) {
	t.Helper()
	if ok || got != 0 {
		t.Errorf("%s: got %d, %v, want it to fail", what, got, ok)
	}
}

// A told is what a call tells: a fraction, or two numbers, and whether it succeeds.
type told struct {
	above, below int
	ok           bool
}

func tell(above int, below int, ok bool) told { return told{above, below, ok} }

func wantTwo(t *testing.T, what string, got told, first int, second int) {
	t.Helper()
	if got != (told{first, second, true}) {
		t.Errorf("%s: got %d and %d, %v, want %d and %d", what, got.above, got.below, got.ok, first, second)
	}
}

func wantNotTwo(t *testing.T, what string, got told) {
	t.Helper()
	if got != (told{}) {
		t.Errorf("%s: got %d and %d, %v, want it to fail", what, got.above, got.below, got.ok)
	}
}

func wantFraction(t *testing.T, what string, got told, above int, below int) {
	t.Helper()
	wantTwo(t, what, got, above, below)
}

func wantNoFraction(t *testing.T, what string, got told) {
	t.Helper()
	wantNotTwo(t, what, got)
}

// wantStairs holds stairs against a text, and wants the call to fail if the text is empty.
func wantStairs(t *testing.T, what string, got impl.Stairs, ok bool, want string) {
	t.Helper()
	if want == "" {
		if ok || got.Steps != 0 || len(got.Strides) != 0 || len(got.Broken) != 0 {
			t.Errorf("%s: got %v, %v, want it to fail", what, got, ok)
		}
		return
	}
	text, fine := impl.StairsText(got)
	if !ok || !fine || text != want {
		t.Errorf("%s: got %v, %v, want %s", what, got, ok, want)
	}
}

// upTo returns 1, 2, .. up to last.
func upTo(last int) []int {
	var list []int
	for n := 1; n <= last; n++ {
		list = append(list, n)
	}
	return list
}
