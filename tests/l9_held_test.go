package tests

import (
	"cmp"
	"slices"
	"strings"
	"sync"
	"testing"

	"loop.example/g01374/impl"
)

// A suspect is one of the hidden stairs, with what its climbs, listed one by one, tell.
type suspect struct {
	stairs                impl.Stairs
	text                  string
	count, shortest, most int
}

// suspects returns all hidden stairs in order.
func suspects() []suspect {
	var all []suspect
	for _, s := range smallStairs() {
		if slices.Max(s.Strides) > 3 || len(s.Broken) > 1 {
			continue
		}
		text, _ := impl.StairsText(s)
		one := suspect{stairs: s, text: text}
		for _, climb := range listed(s, 0) {
			if one.count == 0 || len(climb) < one.shortest {
				one.shortest = len(climb)
			}
			one.most = max(one.most, len(climb))
			one.count++
		}
		all = append(all, one)
	}
	slices.SortFunc(all, func(a suspect, b suspect) int {
		return cmp.Or(cmp.Compare(a.stairs.Steps, b.stairs.Steps), slices.Compare(a.stairs.Strides, b.stairs.Strides), slices.Compare(a.stairs.Broken, b.stairs.Broken))
	})
	return all
}

// fits reports whether these stairs fit a clue.
func (s suspect) fits(c impl.Clue) bool {
	switch c.Kind {
	case 0:
		return s.count == c.B
	case 1:
		return s.count > 0 && s.shortest == c.B || s.count == 0 && c.B == 0
	case 2:
		return slices.Contains(s.stairs.Strides, c.A) == (c.B == 1)
	case 3:
		return slices.Contains(s.stairs.Broken, c.A) == (c.B == 1)
	case 4:
		return s.stairs.Steps == c.B
	}
	return s.count > 0 && s.most == c.B || s.count == 0 && c.B == 0
}

// suspectsOf returns those that fit all clues.
func suspectsOf(all []suspect, clues []impl.Clue) []suspect {
	var left []suspect
	for _, s := range all {
		if !slices.ContainsFunc(clues, func(c impl.Clue) bool { return !s.fits(c) }) {
			left = append(left, s)
		}
	}
	return left
}

// namesOf returns the texts of these stairs with blanks between them.
func namesOf(all []suspect) string {
	var texts []string
	for _, s := range all {
		texts = append(texts, s.text)
	}
	return strings.Join(texts, " ")
}

// allClues returns all clues that there are.
func allClues() []impl.Clue {
	var all []impl.Clue
	for kind := range 6 {
		for a := range 8 {
			for b := range 61 {
				if c := asked(kind, a, b); impl.IsClue(c) {
					all = append(all, c)
				}
			}
		}
	}
	return all
}

// tellingClues returns those that some hidden stairs fit.
func tellingClues(all []suspect) []impl.Clue {
	return slices.DeleteFunc(allClues(), func(c impl.Clue) bool { return len(suspectsOf(all, []impl.Clue{c})) == 0 })
}

func TestHiddenStairsAreAllOfThem(t *testing.T) {
	all := suspects()
	if len(all) != 196 || len(allClues()) != 4*61+3*2+7*2 {
		t.Fatalf("%d hidden stairs, %d clues", len(all), len(allClues()))
	}
	wantSolutions(t, impl.Puzzle{}, namesOf(all))
}

// Each clue, with each of the hidden stairs, and alone in a puzzle.
func TestEachClueAgainstAllStairs(t *testing.T) {
	all := suspects()
	for _, c := range allClues() {
		for _, s := range all {
			fit, ok := impl.DoesFit(c, s.stairs)
			wantTruth(t, s.text, fit, ok, s.fits(c))
		}
		holdPuzzle(t, all, []impl.Clue{c})
		if t.Failed() {
			t.Fatalf("clue %v", c)
		}
	}
}

func TestPairsOfClues(t *testing.T) {
	all := suspects()
	clues := tellingClues(all)
	for _, c := range clues {
		for _, d := range clues {
			wantSolutions(t, posed(c, d), namesOf(suspectsOf(all, []impl.Clue{c, d})))
		}
		if t.Failed() {
			t.Fatalf("clue %v", c)
		}
	}
}

// variedPuzzles returns puzzles of up to MaxClues clues: in turn of any ones, so that most have no solution,
// of such that some hidden stairs fit, and of such ones that tell much, so that many are solved.
func variedPuzzles(all []suspect) [][]impl.Clue {
	telling := tellingClues(all)
	much := slices.DeleteFunc(slices.Clone(telling), func(c impl.Clue) bool { return len(suspectsOf(all, []impl.Clue{c})) > 50 })
	z := 1
	next := func(below int) int {
		z = (z*293 + 907) % 10007
		return z % below
	}
	var puzzles [][]impl.Clue
	for n := range 1000 {
		chosen := telling
		if n%4 > 0 {
			one := all[next(len(all))]
			if n%4 > 1 {
				chosen = much
			}
			chosen = slices.DeleteFunc(slices.Clone(chosen), func(c impl.Clue) bool { return !one.fits(c) })
		}
		var clues []impl.Clue
		for k := range n % (impl.MaxClues + 1) {
			at := next(len(chosen))
			if n%4 == 3 {
				// Few of them are told twice.
				at = (n + k) % len(chosen)
			}
			clues = append(clues, chosen[at])
		}
		puzzles = append(puzzles, clues)
	}
	return puzzles
}

func TestVariedPuzzles(t *testing.T) {
	all := suspects()
	solved := 0
	for _, clues := range variedPuzzles(all) {
		if len(suspectsOf(all, clues)) == 1 {
			solved++
		}
		holdPuzzle(t, all, clues)
		if t.Failed() {
			t.Fatalf("clues %v", clues)
		}
	}
	if solved < 100 {
		t.Errorf("only %d puzzles are solved", solved)
	}
}

// holdPuzzle holds all that a puzzle tells.
func holdPuzzle(t *testing.T, all []suspect, clues []impl.Clue) {
	t.Helper()
	p := posed(clues...)
	left := suspectsOf(all, clues)
	wantSolutions(t, p, namesOf(left))
	holdSolutions(t, p)
	holdSure(t, p, left)
	holdWorth(t, all, p, len(left))
	holdHarder(t, all, p, left)
	text, ok := impl.PuzzleText(p)
	again, fine := impl.ParsePuzzle(text)
	if !ok || !fine || !slices.Equal(again.Clues, clues) {
		t.Errorf("%v has the text %q, which tells %v", p, text, again)
	}
}

// holdSolutions holds the first half of promise 9: solutions fit all clues.
func holdSolutions(t *testing.T, p impl.Puzzle) {
	t.Helper()
	solutions, _ := impl.Solutions(p)
	for _, s := range solutions {
		for _, c := range p.Clues {
			fit, ok := impl.DoesFit(c, s)
			wantTruth(t, "solution by its clue", fit, ok, true)
		}
	}
}

func holdSure(t *testing.T, p impl.Puzzle, left []suspect) {
	t.Helper()
	if len(left) == 0 {
		wantNotSure(t, p)
		return
	}
	sure, missing := []int{1, 2, 3}, []int{1, 2, 3}
	for _, s := range left {
		has := func(stride int) bool { return slices.Contains(s.stairs.Strides, stride) }
		missing = slices.DeleteFunc(missing, has)
		sure = slices.DeleteFunc(sure, func(stride int) bool { return !has(stride) })
	}
	wantSure(t, p, sure, missing)
}

// holdWorth holds what each clue of a puzzle is worth.
func holdWorth(t *testing.T, all []suspect, p impl.Puzzle, many int) {
	t.Helper()
	left := []int{len(all)}
	best := 0
	var needless []int
	for k, c := range p.Clues {
		left = append(left, len(suspectsOf(all, p.Clues[:k+1])))
		if len(suspectsOf(all, []impl.Clue{c})) < len(suspectsOf(all, p.Clues[best:best+1])) {
			best = k
		}
		without := slices.Delete(slices.Clone(p.Clues), k, k+1)
		if len(suspectsOf(all, without)) == many {
			needless = append(needless, k)
		}
		dropped, ok := impl.DropClue(p, k)
		if !ok || !slices.Equal(dropped.Clues, without) {
			t.Errorf("dropped %d of %v: got %v, %v", k, p, dropped, ok)
		}
	}
	if list, ok := impl.LeftByClues(p); !ok || !slices.Equal(list, left) {
		t.Errorf("left by clues of %v: got %v, %v, want %v", p, list, ok, left)
	}
	wantNeedless(t, p, needless...)
	if k, ok := impl.BestClue(p); k != best || ok != (len(p.Clues) > 0) {
		t.Errorf("best clue of %v: got %d, %v, want %d", p, k, ok, best)
	}
}

// holdHarder holds the second half of promise 9: harder puzzles are solved by the same stairs. None of their clues can be taken out.
func holdHarder(t *testing.T, all []suspect, p impl.Puzzle, left []suspect) {
	t.Helper()
	if len(left) != 1 {
		wantNoHarder(t, p)
		return
	}
	// A clue stays if those that stayed before it, and all behind it, are not enough.
	var stay []impl.Clue
	for k, c := range p.Clues {
		if len(suspectsOf(all, slices.Concat(stay, p.Clues[k+1:]))) > 1 {
			stay = append(stay, c)
		}
	}
	harder, ok := impl.HarderPuzzle(p)
	if !ok || !slices.Equal(harder.Clues, stay) {
		t.Errorf("harder than %v: got %v, %v, want %v", p, harder, ok, stay)
	}
	wantSolutions(t, harder, left[0].text)
	wantNeedless(t, harder)
	again, ok := impl.HarderPuzzle(harder)
	if !ok || !slices.Equal(again.Clues, stay) {
		t.Errorf("harder than %v: got %v, %v", harder, again, ok)
	}
}

// madeClues returns the clues that are made from a seed of what the stairs have.
func (s suspect) madeClues(clues int, seed int) []impl.Clue {
	var drawn []int
	for z := seed; len(drawn) < 2*clues; {
		z = (293*z + 907) % 10007
		drawn = append(drawn, z)
	}
	var made []impl.Clue
	for pair := range slices.Chunk(drawn, 2) {
		c := asked(pair[0]%6, 0, 0)
		switch c.Kind {
		case 2:
			c.A = 1 + pair[1]%3
		case 3:
			c.A = 1 + pair[1]%7
		}
		for !s.fits(c) {
			c.B++
		}
		made = append(made, c)
	}
	return made
}

// holdMade holds a puzzle that is made: the stairs that it was made of are among its solutions.
func holdMade(t *testing.T, s suspect, clues int, seed int) {
	t.Helper()
	p, ok := impl.MakePuzzle(s.stairs, clues, seed)
	if want := s.madeClues(clues, seed); !ok || !slices.Equal(p.Clues, want) {
		t.Fatalf("made of %s, %d clues, seed %d: got %v, %v, want %v", s.text, clues, seed, p, ok, want)
	}
}

func TestPuzzlesMadeOfAllStairs(t *testing.T) {
	for n, s := range suspects() {
		for clues := 0; clues <= impl.MaxClues; clues++ {
			for _, seed := range []int{0, 1, 2, 17, 4711, 5000, 9998, 9999} {
				holdMade(t, s, clues, seed)
			}
		}
		p, _ := impl.MakePuzzle(s.stairs, impl.MaxClues, n)
		solutions, ok := impl.Solutions(p)
		if !ok || !slices.ContainsFunc(solutions, func(one impl.Stairs) bool {
			text, _ := impl.StairsText(one)
			return text == s.text
		}) {
			t.Errorf("%v was made of %s, and has the solutions %v", p, s.text, solutions)
		}
	}
}

func TestPuzzlesMadeOfAllSeeds(t *testing.T) {
	all := suspects()
	for seed := range 10000 {
		holdMade(t, all[seed%len(all)], impl.MaxClues, seed)
	}
}

// Solutions of one call are told in memory of their own: who changes one changes no other one.
func TestSolutionsAreApart(t *testing.T) {
	all, ok := impl.Solutions(impl.Puzzle{})
	if !ok {
		t.Fatal("no solutions")
	}
	for i := range all {
		for k := range all[i].Strides {
			all[i].Strides[k] += 10 * (i + 1)
		}
		for k := range all[i].Broken {
			all[i].Broken[k] += 10 * (i + 1)
		}
	}
	for i, s := range suspects() {
		for k, stride := range s.stairs.Strides {
			if all[i].Strides[k] != stride+10*(i+1) {
				t.Fatalf("%s shares its strides", s.text)
			}
		}
		for k, step := range s.stairs.Broken {
			if all[i].Broken[k] != step+10*(i+1) {
				t.Fatalf("%s shares its broken steps", s.text)
			}
		}
	}
}

// Calls at one time know nothing of each other, whether a clue that is none comes to the door of one of them or not.
func TestPuzzlesAtOneTime(t *testing.T) {
	good := puzzle(t, "4.0.4,5.0.4,0.0.5,2.3.0")
	wrong := posed(asked(4, 0, 4), asked(6, 0, 0), asked(0, 0, 5))
	var group sync.WaitGroup
	for range 8 {
		group.Go(func() {
			for range 20 {
				wantSolutions(t, good, "4s1,2")
				wantHarder(t, good, "5.0.4,0.0.5,2.3.0")
				wantNotPuzzle(t, wrong)
			}
		})
	}
	group.Wait()
}
