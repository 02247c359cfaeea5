package tests

import (
	"strings"
	"testing"

	"loop.example/g01374/impl"
)

// Each kind of clue with all numbers up to, and beyond, those that it may have.
func TestCluesAtTheLimits(t *testing.T) {
	for kind := -2; kind <= 8; kind++ {
		for a := -2; a <= 9; a++ {
			for b := -2; b <= 63; b++ {
				want := false
				switch kind {
				case 0, 1, 4, 5:
					want = a == 0 && b >= 0 && b <= 60
				case 2:
					want = (a == 1 || a == 2 || a == 3) && (b == 0 || b == 1)
				case 3:
					want = a >= 1 && a <= 7 && (b == 0 || b == 1)
				}
				c := asked(kind, a, b)
				if impl.IsClue(c) != want || impl.IsPuzzle(posed(c)) != want {
					t.Errorf("whether %v is a clue: got %v, alone in a puzzle %v, want %v", c, impl.IsClue(c), impl.IsPuzzle(posed(c)), want)
				}
			}
		}
	}
	for _, far := range beyond(0, 60) {
		for kind := range 6 {
			for _, c := range []impl.Clue{asked(far, 0, 1), asked(far, far, far), asked(kind, far, 0), asked(kind, far, 1), asked(kind, far, far), asked(kind, 0, far), asked(kind, 1, far)} {
				if impl.IsClue(c) || impl.IsPuzzle(posed(c)) {
					t.Errorf("%v is no clue", c)
				}
			}
		}
	}
}

func TestMostClues(t *testing.T) {
	six := puzzle(t, "4.0.4,0.0.5,2.3.0,2.1.1,3.1.0,1.0.2")
	wantSolutions(t, six, "4s1,2")
	wantSure(t, six, []int{1, 2}, []int{3})
	wantNeedless(t, six, 0, 2, 3, 4, 5)
	wantLeft(t, six, 1, 196, 28, 1, 1, 1, 1, 1)
	wantHarder(t, six, "0.0.5,2.3.0,1.0.2")
	for k := range impl.MaxClues {
		dropped, ok := impl.DropClue(six, k)
		want := strings.Split("4.0.4,0.0.5,2.3.0,2.1.1,3.1.0,1.0.2", ",")
		wantPuzzle(t, "dropped", dropped, ok, strings.Join(append(want[:k], want[k+1:]...), ","))
		// There is room for one again, and for no other one.
		again, ok := impl.AddClue(dropped, six.Clues[k])
		if !ok || len(again.Clues) != impl.MaxClues || again.Clues[impl.MaxClues-1] != six.Clues[k] {
			t.Errorf("added: got %v, %v", again, ok)
		}
		more, ok := impl.AddClue(again, six.Clues[k])
		wantNoPuzzle(t, "one clue too many", more, ok)
	}
	more, ok := impl.AddClue(six, asked(3, 7, 0))
	wantNoPuzzle(t, "one clue too many", more, ok)
	wantNotPuzzle(t, impl.Puzzle{Clues: append(six.Clues[:6:6], asked(3, 7, 0))})
}

// wantNotPuzzle wants all calls that are given a puzzle to fail.
func wantNotPuzzle(t *testing.T, p impl.Puzzle) {
	t.Helper()
	if impl.IsPuzzle(p) {
		t.Errorf("%v is no puzzle", p)
	}
	if all, ok := impl.Solutions(p); ok || len(all) != 0 {
		t.Errorf("solutions of %v: got %v, %v, want it to fail", p, all, ok)
	}
	n, ok := impl.CountSolutions(p)
	wantNoNumber(t, "solutions", n, ok)
	first, ok := impl.FirstSolution(p)
	wantStairs(t, "first solution", first, ok, "")
	wantNotSure(t, p)
	if solved, ok := impl.IsSolved(p); solved || ok {
		t.Errorf("whether %v is solved: got %v, %v, want it to fail", p, solved, ok)
	}
	list, ok := impl.NeedlessClues(p)
	wantNoList(t, "needless clues", list, ok)
	list, ok = impl.LeftByClues(p)
	wantNoList(t, "left by clues", list, ok)
	n, ok = impl.BestClue(p)
	wantNoNumber(t, "best clue", n, ok)
	wantNoHarder(t, p)
	q, ok := impl.DropClue(p, 0)
	wantNoPuzzle(t, "dropped", q, ok)
	// Even the clue that is none cannot be taken out.
	q, ok = impl.DropClue(p, len(p.Clues)-1)
	wantNoPuzzle(t, "dropped", q, ok)
	q, ok = impl.AddClue(p, asked(4, 0, 4))
	wantNoPuzzle(t, "added", q, ok)
	if text, ok := impl.PuzzleText(p); ok || text != "" {
		t.Errorf("text of %v: got %q, %v, want it to fail", p, text, ok)
	}
}

func TestPuzzlesThatAreNone(t *testing.T) {
	for _, p := range oddPuzzles() {
		wantNotPuzzle(t, p)
	}
	// A clue that is none is found wherever it stands, also where no stairs, or one alone, are left by those before.
	for _, text := range []string{"4.0.4", "4.0.0", "0.0.44", "4.0.4,0.0.5", "3.7.0,3.7.0,3.7.0,3.7.0,3.7.0", "4.0.4,4.0.5,4.0.6"} {
		p := puzzle(t, text)
		for at := range len(p.Clues) + 1 {
			for _, c := range oddClues() {
				q := posed(p.Clues[:at]...)
				q.Clues = append(append(q.Clues[:at:at], c), p.Clues[at:]...)
				wantNotPuzzle(t, q)
			}
		}
	}
}

func TestIndicesOfClues(t *testing.T) {
	for _, text := range []string{"", "4.0.4", "4.0.4,0.0.5,2.3.0", "3.7.0,3.7.0,3.7.0,3.7.0,3.7.0,3.7.0"} {
		p := puzzle(t, text)
		for _, k := range beyond(0, len(p.Clues)-1) {
			q, ok := impl.DropClue(p, k)
			wantNoPuzzle(t, "dropped", q, ok)
		}
		for k := range p.Clues {
			q, ok := impl.DropClue(p, k)
			if !ok || len(q.Clues) != len(p.Clues)-1 {
				t.Errorf("without %d of %s: got %v, %v", k, text, q, ok)
			}
		}
	}
}

func TestPuzzlesMadeBeyondTheLimits(t *testing.T) {
	for _, text := range []string{"1s1", "4s1,2", "7s1,2,3x6"} {
		s := stairs(t, text)
		for _, clues := range beyond(0, impl.MaxClues) {
			for _, seed := range []int{0, 1, 9999} {
				p, ok := impl.MakePuzzle(s, clues, seed)
				wantNoPuzzle(t, "made", p, ok)
			}
		}
		for _, seed := range append(beyond(0, 9999), 10006, 10007) {
			for _, clues := range []int{0, 1, 6} {
				p, ok := impl.MakePuzzle(s, clues, seed)
				wantNoPuzzle(t, "made", p, ok)
			}
		}
		for _, seed := range []int{0, 9999} {
			p, ok := impl.MakePuzzle(s, 0, seed)
			wantPuzzle(t, "made", p, ok, "")
			p, ok = impl.MakePuzzle(s, impl.MaxClues, seed)
			if !ok || len(p.Clues) != impl.MaxClues || !impl.IsPuzzle(p) {
				t.Errorf("made: got %v, %v", p, ok)
			}
		}
	}
}

func TestTextsOfPuzzles(t *testing.T) {
	for text, want := range map[string]impl.Puzzle{
		"": {}, "0.0.0": posed(asked(0, 0, 0)), "0.0.60": posed(asked(0, 0, 60)), "2.3.1": posed(asked(2, 3, 1)), "3.7.0,3.7.1": posed(asked(3, 7, 0), asked(3, 7, 1)),
		"4.0.4,0.0.5,2.3.0":                         posed(asked(4, 0, 4), asked(0, 0, 5), asked(2, 3, 0)),
		"5.0.10,4.0.60,3.1.1,2.1.0,1.0.0,0.0.44":    posed(asked(5, 0, 10), asked(4, 0, 60), asked(3, 1, 1), asked(2, 1, 0), asked(1, 0, 0), asked(0, 0, 44)),
		"1.0.60,1.0.60,1.0.60,1.0.60,1.0.60,1.0.60": posed(asked(1, 0, 60), asked(1, 0, 60), asked(1, 0, 60), asked(1, 0, 60), asked(1, 0, 60), asked(1, 0, 60)),
	} {
		p, ok := impl.ParsePuzzle(text)
		if !ok || len(p.Clues) != len(want.Clues) {
			t.Errorf("%q: got %v, %v, want %v", text, p, ok, want)
			continue
		}
		for k, c := range want.Clues {
			if p.Clues[k] != c {
				t.Errorf("%q: got %v, want %v", text, p, want)
			}
		}
		again, ok := impl.PuzzleText(want)
		wantText(t, "text", again, ok, text)
	}
	for _, text := range oddPuzzleTexts() {
		p, ok := impl.ParsePuzzle(text)
		wantNoPuzzle(t, text[:min(len(text), 100)], p, ok)
	}
}

// oddPuzzleTexts returns texts of which none tells a puzzle.
func oddPuzzleTexts() []string {
	return []string{
		" ", "\n", ",", ".", "..", "x", "0", "4", "4.0", "4.0.", "4..4", ".0.4", "4.0.4.", ".4.0.4", "4.0.4.0", "4.0.4.4.0.4", "4.0.4,", ",4.0.4", "4.0.4,,4.0.4", ",,", "4.0.4,x", "x,4.0.4", "4.0.4,4.0", "4.0,4.0.4",
		"4.0.4;4.0.4", "4.0.4 4.0.4", "4.0.4, 0.0.5", "4.0.4 ,0.0.5", " 4.0.4", "4.0.4 ", "4.0.4\n", "4. 0.4", "4,0,4", "4-0-4", "4:0:4", "04.0.4", "4.00.4", "4.0.04", "4.0.00", "+4.0.4", "4.+0.4", "4.0.+4", "4.-0.4", "4.0.-0", "-0.0.4",
		"4.0.-4", "-4.0.4", "4.-1.4", "6.0.0", "7.1.1", "-1.0.0", "4.1.4", "4.0.61", "0.0.61", "1.0.61", "5.0.61", "0.1.1", "1.1.1", "5.1.1", "2.0.0", "2.0.1", "2.4.1", "2.1.2", "3.0.0", "3.8.0", "3.1.2", "3.7.60", "4.0.4,6.0.0", "6.0.0,4.0.4",
		"4.0.4e0", "4.0.0x4", "4.0.1_0", "4.0.4x", "x4.0.4", "4.0.x", "4.x.4", "4.0.٤", "4.0.4\x00", "\x00", "\xff", "4.0.4,\xff", "4.0.99999999999999999999", "18446744073709551620.0.4", "4.18446744073709551616.4", "4.0.18446744073709551620",
		"9223372036854775807.0.4", "4.0.9223372036854775807", "4.0.-9223372036854775808", "4.0.4,4.0.4,4.0.4,4.0.4,4.0.4,4.0.4,4.0.4", strings.Repeat("4.0.4,", 100000) + "4.0.4", strings.Repeat(",", 100000), strings.Repeat(".", 100000),
		strings.Repeat("4", 100000), "4.0." + strings.Repeat("0", 100000) + "4", strings.Repeat("4.0.4.", 100000) + "4", "4.0.4" + strings.Repeat(",", 100000),
	}
}
