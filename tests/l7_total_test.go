package tests

import (
	"math"
	"testing"

	"loop.example/g01374/impl"
)

// ballCalls returns the functions of chapter 7 that jumps are given to.
func ballCalls() []named {
	return []named{
		{"AreJumps", impl.AreJumps},
		{"NextPlace", impl.NextPlace},
		{"PathOfBall", impl.PathOfBall},
		{"EndOfBall", impl.EndOfBall},
		{"PlaceAfter", impl.PlaceAfter},
		{"LoopOfBall", impl.LoopOfBall},
		{"TimeToLoop", impl.TimeToLoop},
		{"AllLoops", impl.AllLoops},
		{"CountByEnd", impl.CountByEnd},
		{"StepsByEnd", impl.StepsByEnd},
		{"LongestToEnd", impl.LongestToEnd},
		{"ComingTo", impl.ComingTo},
		{"NoneComes", impl.NoneComes},
		{"BallsMeet", impl.BallsMeet},
		{"FirstSame", impl.FirstSame},
		{"FewestChanges", impl.FewestChanges},
		{"ChangeJump", impl.ChangeJump},
		{"TurnJumps", impl.TurnJumps},
		{"JumpsText", impl.JumpsText},
	}
}

// ballNumbers returns steps, jumps and times, at the limits of each and beyond them.
func ballNumbers() []int {
	return []int{
		math.MinInt, math.MinInt + 1, -31, -30, -2, -1, 0, 1, 2, 3, 5, 11, 12, 29, 30, 31, impl.MaxBallTime, impl.MaxBallTime + 1, math.MaxInt - 1, math.MaxInt,
	}
}

func TestNothingWorksWithoutJumps(t *testing.T) {
	lists := append(oddJumps(), make([]int, 100000))
	wantAllFail(t, ballCalls(), lists, ballNumbers(), append(oddEnds(), "a", "b", "l"))
	wantAllFail(t, []named{{"ParseJumps", impl.ParseJumps}}, oddJumpsTexts())
}

func TestBallCallsAreTotal(t *testing.T) {
	lists := append(oddJumps(), ordinary(t), around30(7), around30(0), down30(), []int{0}, []int{1}, []int{-1}, []int{5, 5}, []int{1, 1, -2, 3}, []int{2, -1, 2, 1, -3, 0}, []int{30, -30, 0})
	holdTotal(t, ballCalls(), lists, ballNumbers(), append(oddEnds(), "a", "b", "l"))
	holdTotal(t, []named{{"ParseJumps", impl.ParseJumps}}, append(oddJumpsTexts(), "0", "-30,30", "2,-1,2,1,-3,0"))
}
