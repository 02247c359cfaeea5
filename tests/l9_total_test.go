package tests

import (
	"math"
	"testing"

	"loop.example/g01374/impl"
)

// clueCalls returns the functions of chapter 9 that a clue is given to.
func clueCalls() []named {
	return []named{
		{"IsClue", impl.IsClue},
		{"DoesFit", impl.DoesFit},
		{"AddClue", impl.AddClue},
	}
}

// puzzleCalls returns those that a puzzle is given to.
func puzzleCalls() []named {
	return []named{
		{"IsPuzzle", impl.IsPuzzle},
		{"Solutions", impl.Solutions},
		{"CountSolutions", impl.CountSolutions},
		{"FirstSolution", impl.FirstSolution},
		{"SureStrides", impl.SureStrides},
		{"IsSolved", impl.IsSolved},
		{"NeedlessClues", impl.NeedlessClues},
		{"DropClue", impl.DropClue},
		{"AddClue", impl.AddClue},
		{"LeftByClues", impl.LeftByClues},
		{"BestClue", impl.BestClue},
		{"HarderPuzzle", impl.HarderPuzzle},
		{"PuzzleText", impl.PuzzleText},
	}
}

func makeCalls() []named { return []named{{"MakePuzzle", impl.MakePuzzle}} }

func parsePuzzleCalls() []named { return []named{{"ParsePuzzle", impl.ParsePuzzle}} }

// clueNumbers returns indices, numbers of clues and seeds, at the limits of each and beyond them.
func clueNumbers() []int {
	return []int{math.MinInt, math.MinInt + 1, -7, -1, 0, 1, 2, 5, 6, 7, 4711, 9999, 10000, 1 << 32, math.MaxInt - 1, math.MaxInt}
}

func goodClues() []impl.Clue {
	return []impl.Clue{asked(0, 0, 5), asked(1, 0, 0), asked(2, 3, 0), asked(3, 7, 1), asked(4, 0, 60), asked(5, 0, 4)}
}

func TestNothingWorksWithoutClue(t *testing.T) {
	hidden := []impl.Stairs{stairs(t, "1s1"), stairs(t, "4s1,2"), stairs(t, "7s1,2,3x6")}
	puzzles := []impl.Puzzle{{}, puzzle(t, "4.0.4"), puzzle(t, "3.7.0,3.7.0,3.7.0,3.7.0,3.7.0,3.7.0")}
	wantAllFail(t, clueCalls(), oddClues(), append(hidden, oddStairs()...), append(puzzles, oddPuzzles()...))
}

func TestNothingWorksWithoutPuzzle(t *testing.T) {
	wantAllFail(t, puzzleCalls(), oddPuzzles(), append(goodClues(), oddClues()...), clueNumbers())
	wantAllFail(t, puzzleCalls(), []impl.Puzzle{hugePuzzle()}, goodClues(), clueNumbers())
	wantAllFail(t, parsePuzzleCalls(), oddPuzzleTexts())
}

func TestNothingWorksWithoutHiddenStairs(t *testing.T) {
	odd := append(append(unhidden(), oddStairs()...), hugeStairs()...)
	wantAllFail(t, makeCalls(), odd, clueNumbers())
	wantAllFail(t, []named{{"DoesFit", impl.DoesFit}}, odd, append(goodClues(), oddClues()...))
}

func TestPuzzleCallsAreTotal(t *testing.T) {
	texts := []string{"", "4.0.4", "0.0.44", "4.0.4,0.0.5,2.3.0", "4.0.1,0.0.1", "4.0.4,4.0.5", "0.0.0,4.0.2", "4.0.4,4.0.4,4.0.4", "5.0.4,4.0.6,3.5.0,3.2.0,3.1.0,3.4.0", "0.0.44,4.0.7,2.1.1,2.2.1,2.3.1,3.1.0", "3.7.0,3.7.0,3.7.0,3.7.0,3.7.0,3.7.0"}
	puzzles := oddPuzzles()
	for _, text := range texts {
		puzzles = append(puzzles, puzzle(t, text))
	}
	odd := append(append(unhidden(), oddStairs()...), hugeStairs()...)
	some := append(odd, stairs(t, "1s1"), stairs(t, "1s2"), stairs(t, "4s1,2"), stairs(t, "5s1,2x3"), stairs(t, "7s1,2,3"), stairs(t, "7s2x6"), stairs(t, "7s1,2,3x1"))
	holdTotal(t, puzzleCalls(), puzzles, append(goodClues(), oddClues()...), clueNumbers())
	holdTotal(t, clueCalls(), append(goodClues(), oddClues()...), some, puzzles[len(puzzles)-len(texts):])
	holdTotal(t, makeCalls(), some, clueNumbers())
	holdTotal(t, parsePuzzleCalls(), append(oddPuzzleTexts(), texts...))
}
