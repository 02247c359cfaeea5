package tests

import (
	"math"
	"testing"

	"loop.example/g01374/impl"
)

// oddStairs returns values of which none are stairs.
func oddStairs() []impl.Stairs {
	one := []int{1}
	return []impl.Stairs{
		{},
		{Steps: 0, Strides: one},
		{Steps: -1, Strides: one},
		{Steps: impl.MaxSteps + 1, Strides: one},
		{Steps: math.MaxInt, Strides: one, Broken: []int{math.MaxInt - 1}},
		{Steps: math.MinInt, Strides: one, Broken: []int{math.MinInt}},
		{Steps: 5},
		{Steps: 5, Strides: []int{}},
		{Steps: 5, Strides: []int{0}},
		{Steps: 5, Strides: []int{0, 1}},
		{Steps: 5, Strides: []int{-1, 1}},
		{Steps: 5, Strides: []int{1, 1}},
		{Steps: 5, Strides: []int{2, 1}},
		{Steps: 5, Strides: []int{1, impl.MaxStride + 1}},
		{Steps: 5, Strides: []int{math.MinInt, math.MaxInt}},
		{Steps: 5, Strides: []int{1, 2, 3, 4, 5, 6}},
		{Steps: 5, Strides: one, Broken: []int{0}},
		{Steps: 5, Strides: one, Broken: []int{-3}},
		{Steps: 5, Strides: one, Broken: []int{5}},
		{Steps: 5, Strides: one, Broken: []int{6}},
		{Steps: 5, Strides: one, Broken: []int{3, 3}},
		{Steps: 5, Strides: one, Broken: []int{3, 2}},
		{Steps: 5, Strides: one, Broken: []int{math.MinInt, math.MaxInt}},
		{Steps: 1, Strides: one, Broken: []int{1}},
		{Steps: 60, Strides: one, Broken: upTo(60)},
	}
}

func hugeStairs() []impl.Stairs {
	return []impl.Stairs{
		{Steps: 5, Strides: make([]int, 100000)},
		{Steps: 60, Strides: []int{1}, Broken: make([]int, 100000)},
	}
}

// climbCalls returns the functions of chapter 1 that stairs are given to.
func climbCalls() []named {
	return []named{
		{"AreStairs", impl.AreStairs},
		{"IsClimb", impl.IsClimb},
		{"StepsOfClimb", impl.StepsOfClimb},
		{"CountClimbs", impl.CountClimbs},
		{"FirstClimb", impl.FirstClimb},
		{"RankOfClimb", impl.RankOfClimb},
		{"ClimbOfRank", impl.ClimbOfRank},
		{"NextClimb", impl.NextClimb},
		{"CountByStrides", impl.CountByStrides},
		{"FewestStrides", impl.FewestStrides},
		{"MostStrides", impl.MostStrides},
		{"FirstFewest", impl.FirstFewest},
		{"ReachedSteps", impl.ReachedSteps},
		{"StuckSteps", impl.StuckSteps},
		{"NeededSteps", impl.NeededSteps},
		{"ClimbsThrough", impl.ClimbsThrough},
		{"BreakStep", impl.BreakStep},
		{"MendStep", impl.MendStep},
		{"TurnStairs", impl.TurnStairs},
		{"WorstToBreak", impl.WorstToBreak},
		{"StairsText", impl.StairsText},
	}
}

func oddNumbers() []int {
	return []int{math.MinInt, math.MinInt + 1, -61, -1, 0, 1, 3, 5, 9, 59, 60, 61, impl.MaxClimbs, impl.MaxClimbs + 1, math.MaxInt - 1, math.MaxInt}
}

func TestNothingWorksWithoutStairs(t *testing.T) {
	climbs := append(oddClimbs(), []int{1}, []int{1, 1, 1, 1, 1})
	wantAllFail(t, climbCalls(), append(oddStairs(), hugeStairs()...), climbs, oddNumbers())
	wantAllFail(t, []named{{"ParseStairs", impl.ParseStairs}}, oddTexts())
}

func TestClimbCallsAreTotal(t *testing.T) {
	texts := []string{"5s1,2x3", "6s1,2,3x1,5", "4s1,3", "1s1,2", "1s9", "5s2", "5s5x1,2,3,4", "60s1x59", "60s5,6,7,8,9x1,2,3", justTooMany}
	all := oddStairs()
	climbs := oddClimbs()
	for _, text := range texts {
		s := stairs(t, text)
		all = append(all, s)
		if s.Steps < 10 {
			climbs = append(climbs, listed(s, 0)...)
		}
	}
	numbers := append(oddNumbers(), 2, 4, 6)
	holdTotal(t, append(climbCalls(), named{"ParseStairs", impl.ParseStairs}), all, climbs, numbers, append(oddTexts(), texts...))
}
