package tests

import (
	"math"
	"strings"
	"testing"

	"loop.example/g01374/impl"
)

// puzzle returns the puzzle with a text that is known to tell one.
func puzzle(t *testing.T, text string) impl.Puzzle {
	t.Helper()
	p, ok := impl.ParsePuzzle(text)
	if !ok {
		t.Fatalf("ParsePuzzle(%q) fails", text)
	}
	return p
}

// asked returns the clue of a kind with A and B.
func asked(kind int, a int, b int) impl.Clue { return impl.Clue{Kind: kind, A: a, B: b} }

// posed returns the puzzle with these clues.
func posed(clues ...impl.Clue) impl.Puzzle { return impl.Puzzle{Clues: clues} }

// oddClues returns clues of which none is one.
func oddClues() []impl.Clue {
	return []impl.Clue{
		{Kind: -1}, {Kind: 6}, {Kind: 7, A: 1, B: 1}, {Kind: math.MinInt}, {Kind: math.MaxInt}, {Kind: math.MaxInt, A: math.MaxInt, B: math.MaxInt}, {Kind: 1 << 32}, {Kind: -6, B: 1}, {Kind: 12},
		asked(0, 1, 1), asked(1, 1, 1), asked(4, 1, 1), asked(5, 1, 1), asked(0, -1, 1), asked(1, -1, 1), asked(4, -1, 1), asked(5, -1, 1), asked(0, 3, 0), asked(4, 7, 4), asked(5, 0, 61),
		asked(0, 0, -1), asked(1, 0, -1), asked(4, 0, -1), asked(5, 0, -1), asked(0, 0, 61), asked(1, 0, 61), asked(4, 0, 61), asked(0, 0, math.MaxInt), asked(1, 0, math.MinInt), asked(4, 0, 1<<32),
		asked(2, 0, 0), asked(2, 0, 1), asked(2, 4, 0), asked(2, 4, 1), asked(2, -1, 1), asked(2, 1, -1), asked(2, 1, 2), asked(2, 3, 2), asked(2, 3, 60), asked(2, math.MaxInt, 1), asked(2, 1, math.MinInt),
		asked(3, 0, 0), asked(3, 0, 1), asked(3, 8, 0), asked(3, 8, 1), asked(3, -1, 1), asked(3, 1, -1), asked(3, 1, 2), asked(3, 7, 2), asked(3, 7, 60), asked(3, math.MinInt, 1), asked(3, 1, math.MaxInt),
	}
}

// oddPuzzles returns puzzles of which none is one: each clue that is none, alone and among others, and too many clues.
func oddPuzzles() []impl.Puzzle {
	good := asked(4, 0, 4)
	var all []impl.Puzzle
	for _, c := range oddClues() {
		all = append(all, posed(c))
	}
	for _, c := range []impl.Clue{{Kind: 6}, asked(2, 1, 2), asked(0, 0, -1)} {
		// No stairs are left for the last one of these.
		all = append(all, posed(c, good), posed(good, c), posed(good, c, good), posed(c, c), posed(good, good, good, good, good, c), posed(good, asked(4, 0, 5), c))
	}
	return append(all, posed(good, good, good, good, good, good, good), impl.Puzzle{Clues: make([]impl.Clue, 7)})
}

// hugePuzzle returns far too many clues.
func hugePuzzle() impl.Puzzle { return impl.Puzzle{Clues: make([]impl.Clue, 100000)} }

// unhidden returns stairs that are not hidden ones.
func unhidden() []impl.Stairs {
	steps := func(n int, strides ...int) impl.Stairs { return impl.Stairs{Steps: n, Strides: strides} }
	broken := func(n int, broken ...int) impl.Stairs {
		return impl.Stairs{Steps: n, Strides: []int{1, 2}, Broken: broken}
	}
	return []impl.Stairs{
		steps(8, 1), steps(9, 1, 2, 3), steps(60, 1, 2), steps(5, 4), steps(5, 5), steps(5, 9), steps(5, 1, 4), steps(5, 1, 5), steps(5, 2, 3, 4), steps(5, 1, 2, 3, 4), steps(7, 1, 2, 3, 9), steps(1, 4),
		steps(5, 1, 2, 3, 4, 5), broken(5, 1, 2), broken(7, 1, 6), broken(7, 2, 3), broken(7, 1, 2, 3, 4, 5, 6), broken(8, 7), broken(8, 1),
	}
}

// wantPuzzle holds a puzzle against a text, which may be empty.
func wantPuzzle(t *testing.T, what string, got impl.Puzzle, ok bool, want string) {
	t.Helper()
	text, fine := impl.PuzzleText(got)
	if !ok || !fine || text != want {
		t.Errorf("%s: got %v, %v, want %q", what, got, ok, want)
	}
}

func wantNoPuzzle(t *testing.T, what string, got impl.Puzzle, ok bool) {
	t.Helper()
	if ok || len(got.Clues) != 0 {
		t.Errorf("%s: got %v, %v, want it to fail", what, got, ok)
	}
}

// wantSolutions holds the solutions of a puzzle against the texts of these, with blanks between them,
// and whether and how often there is one.
func wantSolutions(t *testing.T, p impl.Puzzle, want string) {
	t.Helper()
	texts := strings.Fields(want)
	all, ok := impl.Solutions(p)
	if !ok || len(all) != len(texts) {
		t.Errorf("solutions of %v: got %v, %v, want %s", p, all, ok, want)
		return
	}
	for i, s := range all {
		wantStairs(t, "solution", s, ok, texts[i])
	}
	n, ok := impl.CountSolutions(p)
	wantNumber(t, "solutions", n, ok, len(texts))
	solved, ok := impl.IsSolved(p)
	wantTruth(t, "solved", solved, ok, len(texts) == 1)
	first, ok := impl.FirstSolution(p)
	if len(texts) == 0 {
		wantStairs(t, "first solution", first, ok, "")
	} else {
		wantStairs(t, "first solution", first, ok, texts[0])
	}
}

// wantSure holds the strides that all solutions have, and those that none has.
func wantSure(t *testing.T, p impl.Puzzle, sure []int, missing []int) {
	t.Helper()
	all, none, ok := impl.SureStrides(p)
	wantList(t, "strides of all", all, ok, sure...)
	wantList(t, "strides of none", none, ok, missing...)
}

func wantNotSure(t *testing.T, p impl.Puzzle) {
	t.Helper()
	all, none, ok := impl.SureStrides(p)
	wantNoList(t, "strides of all", all, ok)
	wantNoList(t, "strides of none", none, ok)
}

func wantNeedless(t *testing.T, p impl.Puzzle, want ...int) {
	t.Helper()
	list, ok := impl.NeedlessClues(p)
	wantList(t, "needless clues", list, ok, want...)
}

// wantHarder holds HarderPuzzle, and wants the solution to stay the same.
func wantHarder(t *testing.T, p impl.Puzzle, want string) {
	t.Helper()
	harder, ok := impl.HarderPuzzle(p)
	wantPuzzle(t, "harder puzzle", harder, ok, want)
	first, fine := impl.FirstSolution(p)
	text, _ := impl.StairsText(first)
	if !fine {
		t.Error("no solution of", p)
		return
	}
	wantSolutions(t, harder, text)
}

func wantNoHarder(t *testing.T, p impl.Puzzle) {
	t.Helper()
	harder, ok := impl.HarderPuzzle(p)
	wantNoPuzzle(t, "harder puzzle", harder, ok)
}

// wantLeft holds how many hidden stairs are left by the clues, and which clue is the best one.
func wantLeft(t *testing.T, p impl.Puzzle, best int, want ...int) {
	t.Helper()
	list, ok := impl.LeftByClues(p)
	wantList(t, "left by clues", list, ok, want...)
	k, ok := impl.BestClue(p)
	wantNumber(t, "best clue", k, ok, best)
}

func TestIsClue(t *testing.T) {
	if impl.MaxHidden != 7 || impl.MaxClues != 6 {
		t.Error("other limits than the document's")
	}
	for _, c := range []impl.Clue{
		asked(0, 0, 0), asked(0, 0, 1), asked(0, 0, 60), asked(1, 0, 0), asked(1, 0, 60), asked(4, 0, 0), asked(4, 0, 7), asked(4, 0, 60), asked(5, 0, 0), asked(5, 0, 60),
		asked(2, 1, 0), asked(2, 1, 1), asked(2, 3, 0), asked(2, 3, 1), asked(3, 1, 0), asked(3, 1, 1), asked(3, 7, 0), asked(3, 7, 1), {},
	} {
		if !impl.IsClue(c) || !impl.IsPuzzle(posed(c)) {
			t.Errorf("%v is a clue", c)
		}
	}
	for _, c := range oddClues() {
		if impl.IsClue(c) || impl.IsPuzzle(posed(c)) {
			t.Errorf("%v is no clue", c)
		}
	}
}

func TestIsPuzzle(t *testing.T) {
	for _, p := range []impl.Puzzle{
		{}, {Clues: []impl.Clue{}}, posed(asked(4, 0, 4)), {Clues: make([]impl.Clue, 6)}, posed(asked(4, 0, 1), asked(4, 0, 2), asked(4, 0, 60), asked(3, 7, 1)), posed(asked(2, 1, 0), asked(2, 2, 0), asked(2, 3, 0)),
	} {
		if !impl.IsPuzzle(p) {
			t.Errorf("%v is a puzzle", p)
		}
	}
	for _, p := range oddPuzzles() {
		if impl.IsPuzzle(p) {
			t.Errorf("%v is no puzzle", p)
		}
	}
	if impl.IsPuzzle(hugePuzzle()) {
		t.Error("no puzzle has so many clues")
	}
}

func TestExampleOfPuzzles(t *testing.T) {
	p := puzzle(t, "4.0.4,0.0.5,2.3.0")
	wantSolutions(t, p, "4s1,2")
	wantSure(t, p, []int{1, 2}, []int{3})
	wantLeft(t, p, 1, 196, 28, 1, 1)
	wantNeedless(t, p, 2)
	wantHarder(t, p, "4.0.4,0.0.5")

	p = puzzle(t, "4.0.1,0.0.1")
	wantSolutions(t, p, "1s1 1s1,2 1s1,2,3 1s1,3")
	wantSure(t, p, []int{1}, nil)
	wantLeft(t, p, 0, 196, 7, 4)
	wantNeedless(t, p)
	wantNoHarder(t, p)
}

func TestFitsOfEachKind(t *testing.T) {
	for _, c := range []struct {
		stairs    string
		fits, not string
	}{
		// 5s1,2x3 has the climbs 1 1 2 1 and 2 2 1.
		{"5s1,2x3", "0.0.2 1.0.3 5.0.4 4.0.5 2.1.1 2.2.1 2.3.0 3.3.1 3.1.0 3.2.0 3.4.0 3.5.0 3.6.0 3.7.0", "0.0.0 0.0.1 0.0.3 1.0.0 1.0.2 1.0.4 5.0.0 5.0.3 5.0.5 4.0.4 4.0.6 4.0.0 4.0.60 2.1.0 2.2.0 2.3.1 3.3.0 3.1.1 3.2.1 3.4.1 3.5.1 3.7.1"},
		// One step: there is no step below the top, and no one above it.
		{"1s1", "0.0.1 1.0.1 5.0.1 4.0.1 2.1.1 2.2.0 2.3.0 3.1.0 3.7.0", "0.0.0 1.0.0 5.0.0 4.0.0 4.0.2 2.1.0 2.2.1 2.3.1 3.1.1 3.7.1 0.0.60 1.0.60 5.0.60"},
		{"1s1,2,3", "0.0.1 1.0.1 5.0.1 4.0.1 2.1.1 2.2.1 2.3.1 3.1.0", "0.0.3 2.1.0 2.2.0 2.3.0"},
		{"2s1,2x1", "0.0.1 1.0.1 5.0.1 3.1.1 3.2.0", "0.0.2 5.0.2 3.1.0 3.2.1"},
		// MaxHidden steps, with all strides, and with the first and the last step broken that may be.
		{"7s1,2,3", "0.0.44 1.0.3 5.0.7 4.0.7 2.1.1 2.2.1 2.3.1 3.1.0 3.6.0 3.7.0", "0.0.43 0.0.45 0.0.60 1.0.2 5.0.6 4.0.6 3.7.1 2.1.0 2.2.0 2.3.0"},
		{"7s1,2,3x1", "0.0.20 1.0.3 5.0.6 3.1.1 3.6.0", "3.1.0 3.6.1 0.0.44 5.0.7"},
		{"7s1,2,3x6", "0.0.20 1.0.3 5.0.6 3.6.1 3.1.0", "3.6.0 3.1.1 0.0.44 5.0.7"},
		{"7s1", "0.0.1 1.0.7 5.0.7 2.1.1 2.2.0 2.3.0", "0.0.7 1.0.1 5.0.1 2.1.0"},
		// Where there is no climb, the kinds 1 and 5 tell of it by B of 0 alone.
		{"1s2", "0.0.0 1.0.0 5.0.0 4.0.1 2.1.0 2.2.1 2.3.0", "0.0.1 1.0.1 5.0.1 2.2.0"},
		{"7s2", "0.0.0 1.0.0 5.0.0 4.0.7", "1.0.3 1.0.4 5.0.3 5.0.4 1.0.60 5.0.60"},
		{"7s1x4", "0.0.0 1.0.0 5.0.0 3.4.1", "1.0.7 5.0.7 1.0.3 0.0.1"},
		{"7s3x6", "0.0.0 1.0.0 5.0.0 3.6.1 2.3.1 2.1.0", "1.0.2 5.0.2"},
		// Fewest and most are not the same.
		{"6s1,3x5", "0.0.2 1.0.2 5.0.4", "1.0.4 5.0.2 5.0.6 5.0.0 1.0.0"},
		{"6s3", "0.0.1 1.0.2 5.0.2", "1.0.1 5.0.1"},
	} {
		s := stairs(t, c.stairs)
		for _, text := range strings.Fields(c.fits) {
			fit, ok := impl.DoesFit(puzzle(t, text).Clues[0], s)
			wantTruth(t, c.stairs+" by "+text, fit, ok, true)
		}
		for _, text := range strings.Fields(c.not) {
			fit, ok := impl.DoesFit(puzzle(t, text).Clues[0], s)
			wantTruth(t, c.stairs+" by "+text, fit, ok, false)
		}
	}
}

func TestStairsThatAreNotHidden(t *testing.T) {
	odd := append(unhidden(), oddStairs()...)
	for _, s := range append(odd, hugeStairs()...) {
		for _, c := range []impl.Clue{asked(4, 0, s.Steps), asked(0, 0, 1), asked(1, 0, 0), asked(2, 1, 1), asked(3, 1, 0), asked(5, 0, 0)} {
			if fit, ok := impl.DoesFit(c, s); fit || ok {
				t.Errorf("%v fit %v: got %v, %v, want it to fail", s, c, fit, ok)
			}
		}
		for _, clues := range []int{0, 1, 6} {
			p, ok := impl.MakePuzzle(s, clues, 1)
			wantNoPuzzle(t, "puzzle made", p, ok)
		}
	}
	// Of what is no clue nothing can be said, whatever the stairs are.
	for _, c := range oddClues() {
		for _, s := range []impl.Stairs{stairs(t, "4s1,2"), stairs(t, "1s1"), {}} {
			if fit, ok := impl.DoesFit(c, s); fit || ok {
				t.Errorf("%v fit %v: got %v, %v, want it to fail", s, c, fit, ok)
			}
		}
	}
}

func TestPuzzleWithoutClue(t *testing.T) {
	for _, p := range []impl.Puzzle{{}, puzzle(t, ""), {Clues: []impl.Clue{}}} {
		all, ok := impl.Solutions(p)
		if !ok || len(all) != 196 {
			t.Fatalf("got %d solutions, %v", len(all), ok)
		}
		for i, text := range strings.Fields("1s1 1s1,2 1s1,2,3 1s1,3 1s2 1s2,3 1s3 2s1 2s1x1 2s1,2 2s1,2x1 2s1,2,3 2s1,2,3x1 2s1,3 2s1,3x1 2s2 2s2x1 2s2,3 2s2,3x1 2s3 2s3x1 3s1 3s1x1 3s1x2 3s1,2") {
			wantStairs(t, "solution", all[i], ok, text)
		}
		for i, text := range strings.Fields("7s2,3x6 7s3 7s3x1 7s3x2 7s3x3 7s3x4 7s3x5 7s3x6") {
			wantStairs(t, "solution", all[188+i], ok, text)
		}
		n, ok := impl.CountSolutions(p)
		wantNumber(t, "solutions", n, ok, 196)
		first, ok := impl.FirstSolution(p)
		wantStairs(t, "first solution", first, ok, "1s1")
		solved, ok := impl.IsSolved(p)
		wantTruth(t, "solved", solved, ok, false)
		wantSure(t, p, nil, nil)
		wantNeedless(t, p)
		wantNoHarder(t, p)
		list, ok := impl.LeftByClues(p)
		wantList(t, "left by clues", list, ok, 196)
		k, ok := impl.BestClue(p)
		wantNoNumber(t, "best clue", k, ok)
		text, ok := impl.PuzzleText(p)
		wantText(t, "text", text, ok, "")
	}
}

// All hidden stairs fit these clues: no step 7 can be broken.
func TestPuzzlesThatAllStairsSolve(t *testing.T) {
	for clues := 1; clues <= impl.MaxClues; clues++ {
		p := puzzle(t, strings.Repeat("3.7.0,", clues-1)+"3.7.0")
		n, ok := impl.CountSolutions(p)
		wantNumber(t, "solutions", n, ok, 196)
		wantSure(t, p, nil, nil)
		wantNeedless(t, p, from0(clues-1)...)
		wantNoHarder(t, p)
		left := []int{196}
		for range clues {
			left = append(left, 196)
		}
		wantLeft(t, p, 0, left...)
	}
}

func TestPuzzlesWithoutSolution(t *testing.T) {
	for _, c := range []struct {
		text     string
		needless []int
		best     int
		left     []int
	}{
		{"4.0.0", nil, 0, []int{196, 0}},
		{"4.0.8", nil, 0, []int{196, 0}},
		{"0.0.60", nil, 0, []int{196, 0}},
		{"0.0.12", nil, 0, []int{196, 0}},
		{"1.0.8", nil, 0, []int{196, 0}},
		{"5.0.60", nil, 0, []int{196, 0}},
		{"3.7.1", nil, 0, []int{196, 0}},
		// Two that do not go together.
		{"4.0.4,4.0.5", nil, 0, []int{196, 28, 0}},
		{"4.0.5,4.0.4", nil, 1, []int{196, 35, 0}},
		{"2.1.1,2.1.0", nil, 1, []int{196, 112, 0}},
		{"3.2.1,3.3.1", nil, 1, []int{196, 35, 0}},
		{"2.1.0,2.2.0,2.3.0", nil, 0, []int{196, 84, 28, 0}},
		// Steps that are broken are below the top.
		{"4.0.4,3.4.1", nil, 1, []int{196, 28, 0}},
		{"0.0.0,1.0.1", nil, 1, []int{196, 63, 0}},
		{"0.0.1,5.0.0", nil, 0, []int{196, 54, 0}},
		// There is none without one of them, either.
		{"4.0.0,4.0.4", []int{1}, 0, []int{196, 0, 0}},
		{"4.0.4,4.0.0", []int{0}, 1, []int{196, 28, 0}},
		{"4.0.0,0.0.60", []int{0, 1}, 0, []int{196, 0, 0}},
		{"4.0.4,4.0.5,4.0.6", []int{0, 1, 2}, 0, []int{196, 28, 0, 0}},
		{"4.0.4,4.0.5,2.1.1", []int{2}, 0, []int{196, 28, 0, 0}},
	} {
		p := puzzle(t, c.text)
		wantSolutions(t, p, "")
		wantNotSure(t, p)
		wantNeedless(t, p, c.needless...)
		wantNoHarder(t, p)
		wantLeft(t, p, c.best, c.left...)
	}
}

func TestOrdinaryPuzzles(t *testing.T) {
	p := puzzle(t, "4.0.3,3.1.1,0.0.1")
	wantSolutions(t, p, "3s1,2x1 3s1,3x1 3s2,3x1 3s3x1")
	wantSure(t, p, nil, nil)
	wantLeft(t, p, 0, 196, 21, 7, 4)
	wantNeedless(t, p)

	// The order of the clues does not matter to the solutions.
	for _, text := range []string{"0.0.1,3.1.1,4.0.3,2.1.0", "2.1.0,4.0.3,0.0.1,3.1.1"} {
		p = puzzle(t, text)
		wantSolutions(t, p, "3s2,3x1 3s3x1")
		wantSure(t, p, []int{3}, []int{1})
		wantNoHarder(t, p)
	}
	wantLeft(t, p, 1, 196, 84, 9, 6, 2)

	p = puzzle(t, "0.0.0,4.0.2")
	wantSolutions(t, p, "2s1x1 2s1,3x1 2s3 2s3x1")
	wantSure(t, p, nil, []int{2})
	p = puzzle(t, "5.0.0,4.0.2,2.1.0")
	wantSolutions(t, p, "2s3 2s3x1")
	wantSure(t, p, []int{3}, []int{1, 2})
	p = puzzle(t, "5.0.7")
	wantSolutions(t, p, "7s1 7s1,2 7s1,2,3 7s1,3")
	wantSure(t, p, []int{1}, nil)
	p = puzzle(t, "1.0.4,4.0.7")
	wantSolutions(t, p, "7s1,2 7s1,2x1 7s1,2x2 7s1,2x3 7s1,2x4 7s1,2x5 7s1,2x6")
	p = puzzle(t, "3.3.1,4.0.7,1.0.0")
	wantSolutions(t, p, "7s1x3 7s2x3 7s3x3")
	wantSure(t, p, nil, nil)
	p = puzzle(t, "2.1.1,2.2.1,2.3.1,4.0.1")
	wantSolutions(t, p, "1s1,2,3")
	wantSure(t, p, []int{1, 2, 3}, nil)
}

func TestCluesThatAreToldTwice(t *testing.T) {
	p := puzzle(t, "4.0.4,4.0.4")
	n, ok := impl.CountSolutions(p)
	wantNumber(t, "solutions", n, ok, 28)
	wantNeedless(t, p, 0, 1)
	wantLeft(t, p, 0, 196, 28, 28)
	wantNoHarder(t, p)

	p = puzzle(t, "4.0.4,0.0.5,4.0.4")
	wantSolutions(t, p, "4s1,2")
	wantNeedless(t, p, 0, 2)
	wantLeft(t, p, 1, 196, 28, 1, 1)
	// The first of both goes out, and the other one is needed then.
	wantHarder(t, p, "0.0.5,4.0.4")
	dropped, ok := impl.DropClue(p, 2)
	wantPuzzle(t, "dropped", dropped, ok, "4.0.4,0.0.5")
	wantNeedless(t, dropped)
	wantHarder(t, puzzle(t, "4.0.4,0.0.5,0.0.5"), "4.0.4,0.0.5")
	wantHarder(t, puzzle(t, "4.0.4,4.0.4,0.0.5,0.0.5,4.0.4"), "0.0.5,4.0.4")
}

// Each of them is needless alone, but not together with another.
func TestCluesThatAreNeedlessAlone(t *testing.T) {
	p := puzzle(t, "4.0.4,5.0.4,0.0.5,2.3.0")
	wantSolutions(t, p, "4s1,2")
	wantNeedless(t, p, 0, 1, 3)
	wantLeft(t, p, 2, 196, 28, 4, 1, 1)
	wantHarder(t, p, "5.0.4,0.0.5,2.3.0")

	p = puzzle(t, "2.2.0,0.0.6,5.0.6,4.0.6")
	wantSolutions(t, p, "6s1,3")
	wantNeedless(t, p, 0, 2, 3)
	wantHarder(t, p, "0.0.6,4.0.6")

	p = puzzle(t, "3.3.0,3.1.0,1.0.4,2.2.1,5.0.7")
	wantSolutions(t, p, "7s1,2")
	wantNeedless(t, p, 0, 1, 3)
	wantLeft(t, p, 4, 196, 168, 126, 8, 7, 1)
	wantHarder(t, p, "1.0.4,5.0.7")
}

func TestPuzzlesThatCannotBeMadeHarder(t *testing.T) {
	for _, c := range []struct {
		text, solution string
		best           int
		left           []int
	}{
		{"0.0.24", "6s1,2,3", 0, []int{196, 1}},
		{"0.0.44", "7s1,2,3", 0, []int{196, 1}},
		{"1.0.6", "6s1", 0, []int{196, 1}},
		{"0.0.11,3.1.1", "6s1,2,3x1", 0, []int{196, 2, 1}},
		{"0.0.2,5.0.3,3.5.1", "6s2,3x5", 2, []int{196, 23, 10, 1}},
		{"0.0.0,4.0.3,3.1.1,2.2.1", "3s2x1", 1, []int{196, 63, 5, 2, 1}},
		{"2.1.1,4.0.7,2.3.0,3.1.1,2.2.1", "7s1,2x1", 3, []int{196, 112, 28, 14, 2, 1}},
		{"5.0.4,4.0.6,3.5.0,3.2.0,3.1.0,3.4.0", "6s1,3x3", 0, []int{196, 17, 5, 4, 3, 2, 1}},
	} {
		p := puzzle(t, c.text)
		wantSolutions(t, p, c.solution)
		wantNeedless(t, p)
		wantLeft(t, p, c.best, c.left...)
		wantHarder(t, p, c.text)
	}
}

func TestPuzzlesThatLoseClues(t *testing.T) {
	for text, want := range map[string]string{
		// All clues but one.
		"0.0.44,4.0.7,2.1.1,2.2.1,2.3.1,3.1.0": "0.0.44", "4.0.7,2.1.1,2.2.1,2.3.1,3.1.0,0.0.44": "0.0.44", "3.7.0,0.0.9": "0.0.9", "0.0.9,3.7.0": "0.0.9", "0.0.9,0.0.9": "0.0.9",
		"0.0.44,0.0.44,0.0.44,0.0.44,0.0.44,0.0.44": "0.0.44", "2.3.0,4.0.6,0.0.1,1.0.6,5.0.6": "1.0.6",
		// Others: what goes out first decides what is needed then.
		"3.2.1,4.0.6,3.4.0,3.7.0,4.0.6,0.0.10": "3.4.0,0.0.10", "3.4.0,2.2.0,2.1.1,5.0.5,0.0.1,2.3.0": "5.0.5,0.0.1", "5.0.6,1.0.4,0.0.5,4.0.7,3.2.0,5.0.6": "0.0.5,3.2.0,5.0.6",
		"1.0.2,5.0.2,5.0.2,2.3.0,3.1.0,4.0.3": "5.0.2,2.3.0,3.1.0,4.0.3", "0.0.2,4.0.6,3.1.0,2.1.1,1.0.2,3.4.0": "0.0.2,4.0.6,3.1.0,2.1.1,1.0.2", "1.0.4,2.3.1,2.3.1,5.0.4": "1.0.4,2.3.1",
	} {
		wantHarder(t, puzzle(t, text), want)
	}
	// Puzzles that are not solved.
	for _, text := range []string{"4.0.4", "0.0.11", "3.7.0", "4.0.0", "4.0.4,4.0.5", "0.0.44,0.0.24"} {
		wantNoHarder(t, puzzle(t, text))
	}
}

func TestBestClues(t *testing.T) {
	for text, want := range map[string]int{
		"4.0.1": 0, "4.0.7,4.0.1": 1, "4.0.1,4.0.7": 0, "2.1.0,2.1.1": 0, "2.1.1,2.2.1,2.3.1": 0, "2.1.1,2.2.0,2.3.1": 1, "2.1.0,2.2.0,2.3.0": 0, "3.6.1,3.5.1,4.0.1": 0, "3.5.1,3.6.1,4.0.1": 1,
		// The first one that none fits.
		"4.0.1,3.7.1,4.0.0": 1, "0.0.44,0.0.60": 1,
		// One that fits the clues before is not better than those, though fewer are left.
		"0.0.44,4.0.1": 0, "3.1.1,3.2.1": 1,
	} {
		k, ok := impl.BestClue(puzzle(t, text))
		wantNumber(t, "best clue of "+text, k, ok, want)
	}
}

func TestCluesDroppedAndAdded(t *testing.T) {
	p := puzzle(t, "4.0.4,0.0.5,2.3.0")
	for k, want := range []string{"0.0.5,2.3.0", "4.0.4,2.3.0", "4.0.4,0.0.5"} {
		q, ok := impl.DropClue(p, k)
		wantPuzzle(t, "dropped", q, ok, want)
	}
	q, ok := impl.DropClue(puzzle(t, "4.0.4"), 0)
	wantPuzzle(t, "dropped", q, ok, "")
	q, ok = impl.DropClue(puzzle(t, "4.0.4,4.0.4"), 1)
	wantPuzzle(t, "dropped", q, ok, "4.0.4")
	q, ok = impl.AddClue(p, asked(3, 7, 0))
	wantPuzzle(t, "added", q, ok, "4.0.4,0.0.5,2.3.0,3.7.0")
	q, ok = impl.AddClue(p, asked(4, 0, 4))
	wantPuzzle(t, "added", q, ok, "4.0.4,0.0.5,2.3.0,4.0.4")
	// What no stairs fit is a clue, too.
	q, ok = impl.AddClue(p, asked(4, 0, 60))
	wantPuzzle(t, "added", q, ok, "4.0.4,0.0.5,2.3.0,4.0.60")
	q, ok = impl.AddClue(impl.Puzzle{}, asked(0, 0, 0))
	wantPuzzle(t, "added", q, ok, "0.0.0")
	for _, c := range oddClues() {
		for _, text := range []string{"", "4.0.4", "4.0.0,4.0.4", "4.0.4,4.0.4,4.0.4,4.0.4,4.0.4,4.0.4"} {
			q, ok = impl.AddClue(puzzle(t, text), c)
			wantNoPuzzle(t, "added", q, ok)
		}
	}
}

func TestPuzzlesThatAreMade(t *testing.T) {
	for _, c := range []struct {
		stairs string
		seed   int
		want   string
	}{
		{"5s1,2x3", 0, "1.0.3,2.2.1,5.0.4,3.4.0,3.4.0,3.7.0"}, {"5s1,2x3", 1, "0.0.2,1.0.3,4.0.5,1.0.3,1.0.3,3.3.1"}, {"5s1,2x3", 4711, "0.0.2,5.0.4,5.0.4,0.0.2,5.0.4,1.0.3"},
		{"5s1,2x3", 9999, "2.2.1,1.0.3,3.1.0,3.4.0,4.0.5,3.2.0"}, {"7s1,2,3", 0, "1.0.3,2.2.1,5.0.7,3.4.0,3.4.0,3.7.0"}, {"7s1,2,3", 1, "0.0.44,1.0.3,4.0.7,1.0.3,1.0.3,3.3.0"},
		{"7s1,2,3", 9999, "2.2.1,1.0.3,3.1.0,3.4.0,4.0.7,3.2.0"}, {"1s2", 0, "1.0.0,2.2.1,5.0.0,3.4.0,3.4.0,3.7.0"}, {"1s2", 4711, "0.0.0,5.0.0,5.0.0,0.0.0,5.0.0,1.0.0"},
		{"6s1,3x5", 9999, "2.2.0,1.0.2,3.1.0,3.4.0,4.0.6,3.2.0"}, {"7s2x6", 1, "0.0.0,1.0.0,4.0.7,1.0.0,1.0.0,3.3.0"}, {"4s1,2", 9999, "2.2.1,1.0.2,3.1.0,3.4.0,4.0.4,3.2.0"},
	} {
		s := stairs(t, c.stairs)
		words := strings.Split(c.want, ",")
		for clues := 0; clues <= impl.MaxClues; clues++ {
			p, ok := impl.MakePuzzle(s, clues, c.seed)
			wantPuzzle(t, "made", p, ok, strings.Join(words[:clues], ","))
		}
	}
}
