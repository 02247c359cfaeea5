package tests

import (
	"math"
	"reflect"
	"testing"

	"loop.example/g01374/impl"
)

// oddStairs returns values of which none are stairs.
func oddStairs() []impl.Stairs {
	one := []int{1}
	return []impl.Stairs{
		{},
		{Steps: 0, Strides: one},
		{Steps: -1, Strides: one},
		{Steps: impl.MaxSteps + 1, Strides: one},
		{Steps: math.MaxInt, Strides: one, Broken: []int{math.MaxInt - 1}},
		{Steps: math.MinInt, Strides: one, Broken: []int{math.MinInt}},
		{Steps: 5},
		{Steps: 5, Strides: []int{}},
		{Steps: 5, Strides: []int{0}},
		{Steps: 5, Strides: []int{0, 1}},
		{Steps: 5, Strides: []int{-1, 1}},
		{Steps: 5, Strides: []int{1, 1}},
		{Steps: 5, Strides: []int{2, 1}},
		{Steps: 5, Strides: []int{1, impl.MaxStride + 1}},
		{Steps: 5, Strides: []int{math.MinInt, math.MaxInt}},
		{Steps: 5, Strides: []int{1, 2, 3, 4, 5, 6}},
		{Steps: 5, Strides: make([]int, 100000)},
		{Steps: 5, Strides: one, Broken: []int{0}},
		{Steps: 5, Strides: one, Broken: []int{-3}},
		{Steps: 5, Strides: one, Broken: []int{5}},
		{Steps: 5, Strides: one, Broken: []int{6}},
		{Steps: 5, Strides: one, Broken: []int{3, 3}},
		{Steps: 5, Strides: one, Broken: []int{3, 2}},
		{Steps: 5, Strides: one, Broken: []int{math.MinInt, math.MaxInt}},
		{Steps: 1, Strides: one, Broken: []int{1}},
		{Steps: 60, Strides: one, Broken: upTo(60)},
		{Steps: 60, Strides: one, Broken: make([]int, 100000)},
	}
}

// A call calls one function with those of the arguments that it has, and returns all its results.
type call struct {
	name string
	run  func(s impl.Stairs, climb []int, n int) []any
}

func results(r ...any) []any { return r }

func climbCalls() []call {
	type of = impl.Stairs
	return []call{
		{"IsClimb", func(s of, c []int, n int) []any { a, ok := impl.IsClimb(s, c); return results(a, ok) }},
		{"StepsOfClimb", func(s of, c []int, n int) []any { a, ok := impl.StepsOfClimb(s, c); return results(a, ok) }},
		{"CountClimbs", func(s of, c []int, n int) []any { a, ok := impl.CountClimbs(s); return results(a, ok) }},
		{"FirstClimb", func(s of, c []int, n int) []any { a, ok := impl.FirstClimb(s); return results(a, ok) }},
		{"RankOfClimb", func(s of, c []int, n int) []any { a, ok := impl.RankOfClimb(s, c); return results(a, ok) }},
		{"ClimbOfRank", func(s of, c []int, n int) []any { a, ok := impl.ClimbOfRank(s, n); return results(a, ok) }},
		{"NextClimb", func(s of, c []int, n int) []any { a, ok := impl.NextClimb(s, c); return results(a, ok) }},
		{"CountByStrides", func(s of, c []int, n int) []any { a, ok := impl.CountByStrides(s, n); return results(a, ok) }},
		{"FewestStrides", func(s of, c []int, n int) []any { a, ok := impl.FewestStrides(s); return results(a, ok) }},
		{"MostStrides", func(s of, c []int, n int) []any { a, ok := impl.MostStrides(s); return results(a, ok) }},
		{"FirstFewest", func(s of, c []int, n int) []any { a, ok := impl.FirstFewest(s); return results(a, ok) }},
		{"ReachedSteps", func(s of, c []int, n int) []any { a, ok := impl.ReachedSteps(s); return results(a, ok) }},
		{"StuckSteps", func(s of, c []int, n int) []any { a, ok := impl.StuckSteps(s); return results(a, ok) }},
		{"NeededSteps", func(s of, c []int, n int) []any { a, ok := impl.NeededSteps(s); return results(a, ok) }},
		{"ClimbsThrough", func(s of, c []int, n int) []any { a, ok := impl.ClimbsThrough(s, n); return results(a, ok) }},
		{"BreakStep", func(s of, c []int, n int) []any { a, ok := impl.BreakStep(s, n); return results(a, ok) }},
		{"MendStep", func(s of, c []int, n int) []any { a, ok := impl.MendStep(s, n); return results(a, ok) }},
		{"TurnStairs", func(s of, c []int, n int) []any { a, ok := impl.TurnStairs(s); return results(a, ok) }},
		{"WorstToBreak", func(s of, c []int, n int) []any { a, b, ok := impl.WorstToBreak(s); return results(a, b, ok) }},
		{"StairsText", func(s of, c []int, n int) []any { a, ok := impl.StairsText(s); return results(a, ok) }},
		{"AreStairs", func(s of, c []int, n int) []any { return results(impl.AreStairs(s)) }},
	}
}

func oddNumbers() []int {
	return []int{math.MinInt, math.MinInt + 1, -61, -1, 0, 1, 3, 5, 9, 59, 60, 61, impl.MaxClimbs, impl.MaxClimbs + 1, math.MaxInt - 1, math.MaxInt}
}

// isNothing reports whether a result is zero; a nil and an empty list are the same.
func isNothing(r any) bool {
	v := reflect.ValueOf(r)
	return v.IsZero() || v.Kind() == reflect.Slice && v.Len() == 0
}

func TestCallsThatFailReturnNothing(t *testing.T) {
	all := append(oddStairs(), stairs(t, "5s1,2x3"), stairs(t, "1s9"), stairs(t, "5s2"), stairs(t, justTooMany), stairs(t, "60s1x59"))
	odd := len(oddStairs())
	for _, c := range climbCalls() {
		for i, s := range all {
			for _, climb := range oddClimbs() {
				for _, n := range oddNumbers() {
					rs := c.run(s, climb, n)
					last := len(rs) - 1
					if rs[last] == true && i < odd {
						t.Fatalf("%s(%v, %v, %d) succeeds with no stairs", c.name, s, climb, n)
					}
					for _, r := range rs[:last] {
						if rs[last] == false && !isNothing(r) {
							t.Fatalf("%s(%v, %v, %d) fails, and returns %v", c.name, s, climb, n, r)
						}
					}
				}
			}
		}
	}
}

const behind = 12345678

// withRoom returns a copy of the list with room behind it, full of a number that nobody may read or write.
func withRoom(list []int) []int {
	room := append(append([]int{}, list...), behind, behind, behind, behind)
	return room[:len(list)]
}

// whole returns the list with all that is behind it.
func whole(list []int) []int { return list[:cap(list)] }

// listsOf returns the lists in the results of one call, with all that is behind them.
func listsOf(rs []any) [][]int {
	var lists [][]int
	for _, r := range rs {
		switch v := r.(type) {
		case []int:
			lists = append(lists, whole(v))
		case impl.Stairs:
			lists = append(lists, whole(v.Strides), whole(v.Broken))
		}
	}
	return lists
}

func copied(lists [][]int) [][]int {
	var copies [][]int
	for _, list := range lists {
		copies = append(copies, append([]int{}, list...))
	}
	return copies
}

func scribble(list []int) {
	for i := range list {
		list[i] = -777
	}
}

func TestArgumentsAreTheirOwn(t *testing.T) {
	worked := map[string]bool{}
	for _, text := range []string{"5s1,2x3", "6s1,2,3x1,5", "4s1,3", "1s1,2", "5s2", "5s5x1,2,3,4"} {
		plain := stairs(t, text)
		climbs := append(listed(plain, 0), []int{1, 1}, nil)
		for _, c := range climbCalls() {
			for _, climb := range climbs {
				for n := range 7 {
					if holdApart(t, c, plain, climb, n) {
						worked[c.name] = true
					}
				}
			}
		}
	}
	for _, c := range climbCalls() {
		if !worked[c.name] {
			t.Error(c.name, "was never held with a call that succeeds")
		}
	}
}

// holdApart calls a function with arguments that have room behind them, holds them unchanged and the
// results apart from them and from each other, and reports whether the call succeeded.
func holdApart(t *testing.T, c call, plain impl.Stairs, climb []int, n int) bool {
	s := impl.Stairs{Steps: plain.Steps, Strides: withRoom(plain.Strides), Broken: withRoom(plain.Broken)}
	arguments := [][]int{whole(s.Strides), whole(s.Broken), nil}
	given := withRoom(climb)
	arguments[2] = whole(given)
	before := copied(arguments)

	rs := c.run(s, given, n)
	if !reflect.DeepEqual(arguments, before) {
		t.Fatalf("%s changes its arguments %v to %v", c.name, before, arguments)
	}
	lists := listsOf(rs)
	for i := range lists {
		others := copied(lists)
		scribble(lists[i])
		scribble(others[i])
		if !reflect.DeepEqual(copied(lists), others) {
			t.Fatalf("%s: two lists of one result share memory", c.name)
		}
	}
	if !reflect.DeepEqual(arguments, before) {
		t.Fatalf("%s: a result shares memory with an argument", c.name)
	}
	// What was done to the results above shows in no later call, and neither does the room behind the arguments.
	if again, want := c.run(s, given, n), c.run(plain, climb, n); !alike(again, want) {
		t.Fatalf("%s: got %v, want %v", c.name, again, want)
	}
	return rs[len(rs)-1] == true
}

// alike compares results; a nil and an empty list are the same.
func alike(a []any, b []any) bool {
	for i := range a {
		if isNothing(a[i]) && isNothing(b[i]) {
			continue
		}
		s, ok := a[i].(impl.Stairs)
		if ok {
			r := b[i].(impl.Stairs)
			if !alike(results(s.Steps, s.Strides, s.Broken), results(r.Steps, r.Strides, r.Broken)) {
				return false
			}
		} else if !reflect.DeepEqual(a[i], b[i]) {
			return false
		}
	}
	return len(a) == len(b)
}

func TestParsedStairsAreTheirOwn(t *testing.T) {
	for _, text := range []string{"6s1,2,3x1,5", "1s9", "60s5,6,7,8,9x1,2,3"} {
		first, second := stairs(t, text), stairs(t, text)
		scribble(whole(first.Strides))
		wantStairs(t, "parsed twice", second, true, text)
		third := stairs(t, text)
		broken := append([]int{}, third.Broken...)
		scribble(whole(third.Strides))
		if !reflect.DeepEqual(broken, append([]int{}, third.Broken...)) {
			t.Error("the lists of parsed stairs share memory")
		}
	}
}

func TestNilAndEmptyAreTheSame(t *testing.T) {
	for _, c := range climbCalls() {
		a := c.run(impl.Stairs{Steps: 4, Strides: []int{1, 2}}, nil, 2)
		b := c.run(impl.Stairs{Steps: 4, Strides: []int{1, 2}, Broken: []int{}}, []int{}, 2)
		if !alike(a, b) {
			t.Errorf("%s: %v and %v", c.name, a, b)
		}
	}
}
