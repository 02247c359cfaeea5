package tests

import (
	"math"
	"testing"

	"loop.example/g01374/impl"
)

// rollCalls returns the functions of chapter 8 that rolls are given to.
func rollCalls() []named {
	return []named{
		{"AreRolls", impl.AreRolls},
		{"StepsOfRolls", impl.StepsOfRolls},
		{"RestOfRolls", impl.RestOfRolls},
		{"FewestRolls", impl.FewestRolls},
		{"FirstRolls", impl.FirstRolls},
		{"LeastLength", impl.LeastLength},
		{"RollsOfLeast", impl.RollsOfLeast},
		{"CoverPlan", impl.CoverPlan},
		{"GreatestNeed", impl.GreatestNeed},
		{"RollsText", impl.RollsText},
	}
}

// patternCalls returns those that only numbers are given to.
func patternCalls() []named {
	return []named{
		{"StepsOfRoll", impl.StepsOfRoll},
		{"WithPattern", impl.WithPattern},
		{"PatternStarts", impl.PatternStarts},
		{"PatternPeriod", impl.PatternPeriod},
		{"WholeStarts", impl.WholeStarts},
	}
}

// stripedCalls returns those that a striped carpet is given to.
func stripedCalls() []named {
	return []named{
		{"IsStriped", impl.IsStriped},
		{"ColourAt", impl.ColourAt},
		{"ColoursOfStep", impl.ColoursOfStep},
		{"AlikeSteps", impl.AlikeSteps},
	}
}

func planCalls() []named { return []named{{"JoinsOfPlan", impl.JoinsOfPlan}} }

func parseRollsCalls() []named { return []named{{"ParseRolls", impl.ParseRolls}} }

// carpetNumbers returns steps, needs and lengths, at the limits of each and beyond them.
func carpetNumbers() []int {
	return []int{math.MinInt, math.MinInt + 1, -100, -1, 0, 1, 2, 7, 19, 20, 45, 99, 100, 101, 1999, 2000, 2001, 1 << 32, math.MaxInt - 1, math.MaxInt}
}

// stripeNumbers returns fewer ones, since three of them at a time are given to a call.
func stripeNumbers() []int {
	return []int{math.MinInt, -1, 0, 1, 2, 8, 20, 100, 101, 2000, 2001, math.MaxInt}
}

func TestNothingWorksWithoutRolls(t *testing.T) {
	wantAllFail(t, rollCalls(), append(oddRolls(), make([]int, 100000)), carpetNumbers())
	wantAllFail(t, planCalls(), oddPlans())
	wantAllFail(t, stripedCalls(), oddStripes(), stripeNumbers())
	wantAllFail(t, parseRollsCalls(), oddRollsTexts())
}

func TestNoNumberBeyondTheLimitsWorks(t *testing.T) {
	odd := []int{math.MinInt, math.MinInt + 1, -2001, -1, 0, 2001, 1 << 32, math.MaxInt - 1, math.MaxInt}
	wantAllFail(t, patternCalls(), odd)
}

func TestCarpetCallsAreTotal(t *testing.T) {
	lists := append(oddRolls(), []int{1}, []int{2000}, []int{100, 70, 45}, []int{70, 70}, []int{19, 40, 1, 20}, []int{70, 29, 149, 30, 1, 90}, longestRolls(), shortestRolls())
	holdTotal(t, rollCalls(), lists, carpetNumbers())
	holdTotal(t, patternCalls(), carpetNumbers())
	holdTotal(t, planCalls(), append(oddPlans(), []int{0}, []int{7}, []int{0, 0, 1, 1, 0}, make([]int, 100)))
	holdTotal(t, stripedCalls(), append(oddStripes(), "a", "abc", "aab", "abcdefghij"), stripeNumbers())
	holdTotal(t, parseRollsCalls(), append(oddRollsTexts(), "1", "100+70+45", "2000+2000+1"))
}
