package tests

import (
	"math"
	"slices"
	"testing"

	"loop.example/g01374/impl"
)

// jumps returns the jumps with a text that is known to tell some.
func jumps(t *testing.T, text string) []int {
	t.Helper()
	j, ok := impl.ParseJumps(text)
	if !ok {
		t.Fatalf("ParseJumps(%q) fails", text)
	}
	return j
}

// ordinary returns the jumps of a stair with all three ends: 2, 3 and 7 are a loop, 6 is one, and no ball from above gets beyond them.
func ordinary(t *testing.T) []int { return jumps(t, "3,-2,1,4,-1,2,0,-5,-9,1,5,-3") }

// oddJumps returns lists of which none are jumps.
func oddJumps() [][]int {
	return [][]int{
		nil, {}, {impl.MaxJump + 1}, {-impl.MaxJump - 1}, {0, 0, 31}, {-31, 1, 1}, {1, 31, 1}, {31, -31}, {math.MaxInt}, {math.MinInt},
		{math.MinInt, math.MaxInt}, {1, math.MinInt + 1, 1}, {1 << 32}, make([]int, impl.MaxBallSteps+1), slices.Repeat([]int{1}, 31), slices.Repeat([]int{-30}, 1000),
	}
}

// wantLoops holds loops, each one a list.
func wantLoops(t *testing.T, j []int, want ...[]int) {
	t.Helper()
	got, ok := impl.AllLoops(j)
	if !ok || !slices.EqualFunc(got, want, slices.Equal) {
		t.Errorf("loops of %v: got %v, %v, want %v", j, got, ok, want)
	}
}

// wantEnds holds the ends of all balls, each one told by its letter, that of the step 0 first.
func wantEnds(t *testing.T, j []int, want string) {
	t.Helper()
	if len(want) != len(j) {
		t.Fatalf("%v has other steps than %q", j, want)
	}
	steps := map[string][]int{}
	for step, end := range want {
		got, ok := impl.EndOfBall(j, step)
		wantText(t, "end", got, ok, string(end))
		steps[string(end)] = append(steps[string(end)], step)
	}
	for _, end := range []string{"a", "b", "l"} {
		list, ok := impl.StepsByEnd(j, end)
		wantList(t, "steps by "+end, list, ok, steps[end]...)
	}
	above, below, loop, ok := impl.CountByEnd(j)
	if !ok || above != len(steps["a"]) || below != len(steps["b"]) || loop != len(steps["l"]) {
		t.Errorf("ends of %v: got %d, %d and %d, %v, want %s", j, above, below, loop, ok, want)
	}
}

// wantComing holds from where balls come to all steps, and to which of them none does.
func wantComing(t *testing.T, j []int, want ...[]int) {
	t.Helper()
	if len(want) != len(j) {
		t.Fatalf("%v has other steps than %v", j, want)
	}
	var none []int
	for step := range j {
		list, ok := impl.ComingTo(j, step)
		wantList(t, "coming", list, ok, want[step]...)
		if len(want[step]) == 0 {
			none = append(none, step)
		}
	}
	list, ok := impl.NoneComes(j)
	wantList(t, "none comes", list, ok, none...)
}

// wantMeet holds when and where two balls meet, whichever is told first.
func wantMeet(t *testing.T, j []int, a int, b int, time int, step int) {
	t.Helper()
	wantTwo(t, "meet", tell(impl.BallsMeet(j, a, b)), time, step)
	wantTwo(t, "meet", tell(impl.BallsMeet(j, b, a)), time, step)
}

func wantNoMeet(t *testing.T, j []int, a int, b int) {
	t.Helper()
	wantNotTwo(t, "meet", tell(impl.BallsMeet(j, a, b)))
	wantNotTwo(t, "meet", tell(impl.BallsMeet(j, b, a)))
}

// wantSameStep holds FirstSame, first by the path of a and then by that of b.
func wantSameStep(t *testing.T, j []int, a int, b int, byA int, byB int) {
	t.Helper()
	n, ok := impl.FirstSame(j, a, b)
	wantNumber(t, "first same", n, ok, byA)
	n, ok = impl.FirstSame(j, b, a)
	wantNumber(t, "first same", n, ok, byB)
}

// wantOut holds a ball that is out at last: its path, and where it is when all seconds of it have gone.
func wantOut(t *testing.T, j []int, step int, at int, path ...int) {
	t.Helper()
	list, ok := impl.PathOfBall(j, step)
	wantList(t, "path", list, ok, path...)
	for time, place := range path {
		n, ok := impl.PlaceAfter(j, step, time)
		wantNumber(t, "place", n, ok, place)
	}
	for _, time := range []int{len(path), len(path) + 1, 1000, impl.MaxBallTime} {
		n, ok := impl.PlaceAfter(j, step, time)
		wantNumber(t, "place", n, ok, at)
	}
	n, ok := impl.NextPlace(j, path[len(path)-1])
	wantNumber(t, "next", n, ok, at)
	list, ok = impl.LoopOfBall(j, step)
	wantNoList(t, "loop", list, ok)
	n, ok = impl.TimeToLoop(j, step)
	wantNoNumber(t, "time to loop", n, ok)
}

// wantIn holds a ball that comes to a loop: its path, when it comes to the loop, and how this is told.
func wantIn(t *testing.T, j []int, step int, path []int, time int, loop ...int) {
	t.Helper()
	list, ok := impl.PathOfBall(j, step)
	wantList(t, "path", list, ok, path...)
	n, ok := impl.TimeToLoop(j, step)
	wantNumber(t, "time to loop", n, ok, time)
	list, ok = impl.LoopOfBall(j, step)
	wantList(t, "loop", list, ok, loop...)
	// Behind its path the ball is where it came to the loop.
	n, ok = impl.PlaceAfter(j, step, len(path))
	wantNumber(t, "place", n, ok, path[time])
	text, ok := impl.EndOfBall(j, step)
	wantText(t, "end", text, ok, "l")
}

func wantChanges(t *testing.T, j []int, want ...int) {
	t.Helper()
	for step := range j {
		n, ok := impl.FewestChanges(j, step)
		if want[step] < 0 {
			wantNoNumber(t, "changes", n, ok)
		} else {
			wantNumber(t, "changes", n, ok, want[step])
		}
	}
}

func TestAreJumps(t *testing.T) {
	if impl.MaxBallSteps != 30 || impl.MaxJump != 30 || impl.MaxBallTime != 1000000000000 {
		t.Error("other limits than the document's")
	}
	for _, j := range [][]int{{0}, {1}, {-1}, {30}, {-30}, {30, -30, 0}, make([]int, 30), slices.Repeat([]int{30}, 30), slices.Repeat([]int{-30}, 30), {2, -1, 2, 1, -3, 0}} {
		if !impl.AreJumps(j) {
			t.Errorf("%v are jumps", j)
		}
	}
	for _, j := range oddJumps() {
		if impl.AreJumps(j) {
			t.Errorf("%v are no jumps", j)
		}
	}
}

func TestExampleOfLoops(t *testing.T) {
	j := jumps(t, "2,-1,2,1,-3,0")
	wantList(t, "parsed", j, true, 2, -1, 2, 1, -3, 0)
	wantIn(t, j, 0, []int{0, 2, 4, 1}, 0, 0, 2, 4, 1)
	wantIn(t, j, 3, []int{3, 4, 1, 0, 2}, 1, 0, 2, 4, 1)
	wantIn(t, j, 4, []int{4, 1, 0, 2}, 0, 0, 2, 4, 1)
	wantIn(t, j, 5, []int{5}, 0, 5)
	wantLoops(t, j, []int{0, 2, 4, 1}, []int{5})
	wantEnds(t, j, "llllll")
	n, ok := impl.PlaceAfter(j, 3, 5)
	wantNumber(t, "place", n, ok, 4)
	list, ok := impl.ChangeJump(j, 5, 1)
	wantList(t, "changed", list, ok, 2, -1, 2, 1, -3, 1)
	wantEnds(t, list, "lllllb")
	wantChanges(t, list, 1, 1, 1, 1, 1, 0)
	list, ok = impl.TurnJumps(list)
	wantList(t, "turned", list, ok, -1, 3, -1, -2, 1, -2)
}

func TestExampleOfEnds(t *testing.T) {
	j := jumps(t, "1,1,-2,3")
	wantOut(t, j, 3, 4, 3)
	wantIn(t, j, 0, []int{0, 1, 2}, 0, 0, 1, 2)
	wantEnds(t, j, "lllb")
	wantChanges(t, j, 1, 1, 1, 0)
	wantComing(t, j, []int{2}, []int{0}, []int{1}, nil)
	wantTwo(t, "longest", tell(impl.LongestToEnd(j)), 3, 1)
	wantMeet(t, jumps(t, "2,1,1"), 0, 1, 1, 2)
}

func TestOrdinaryStair(t *testing.T) {
	j := ordinary(t)
	for step, next := range []int{3, -1, 3, 7, 3, 7, 6, 2, -1, 10, 12, 8} {
		n, ok := impl.NextPlace(j, step)
		wantNumber(t, "next", n, ok, next)
	}
	wantEnds(t, j, "lallllllabba")
	wantLoops(t, j, []int{2, 3, 7}, []int{6})
	wantIn(t, j, 0, []int{0, 3, 7, 2}, 1, 2, 3, 7)
	wantIn(t, j, 5, []int{5, 7, 2, 3}, 1, 2, 3, 7)
	wantIn(t, j, 7, []int{7, 2, 3}, 0, 2, 3, 7)
	wantIn(t, j, 6, []int{6}, 0, 6)
	wantOut(t, j, 1, -1, 1)
	wantOut(t, j, 11, -1, 11, 8)
	wantOut(t, j, 9, 12, 9, 10)
	// From 11 a ball is out after as many seconds.
	wantTwo(t, "longest", tell(impl.LongestToEnd(j)), 9, 2)
	wantComing(t, j, nil, nil, []int{7}, []int{0, 2, 4}, nil, nil, []int{6}, []int{3, 5}, []int{11}, nil, []int{9}, nil)
	wantChanges(t, j, -1, -1, -1, -1, -1, -1, -1, -1, -1, 0, 0, 1)
	wantMeet(t, j, 0, 4, 1, 3)
	wantMeet(t, j, 3, 5, 1, 7)
	wantNoMeet(t, j, 0, 3)
	wantNoMeet(t, j, 0, 6)
	wantNoMeet(t, j, 9, 10)
	wantSameStep(t, j, 0, 5, 3, 7)
	wantSameStep(t, j, 9, 10, 10, 10)
}

func TestStairOfOneStep(t *testing.T) {
	for _, c := range []struct {
		jump    int
		end     string
		changes int
	}{
		{0, "l", 1}, {1, "b", 0}, {30, "b", 0}, {-1, "a", -1}, {-2, "a", -1}, {-30, "a", -1},
	} {
		j := []int{c.jump}
		wantEnds(t, j, c.end)
		wantChanges(t, j, c.changes)
		wantSameStep(t, j, 0, 0, 0, 0)
		wantNoMeet(t, j, 0, 0)
		list, ok := impl.TurnJumps(j)
		wantList(t, "turned", list, ok, -c.jump)
	}
	wantIn(t, []int{0}, 0, []int{0}, 0, 0)
	wantLoops(t, []int{0}, []int{0})
	wantComing(t, []int{0}, []int{0})
	wantOut(t, []int{1}, 0, 1, 0)
	wantOut(t, []int{-1}, 0, -1, 0)
	wantOut(t, []int{30}, 0, 1, 0)
	wantOut(t, []int{-30}, 0, -1, 0)
	wantLoops(t, []int{1})
	wantComing(t, []int{1}, nil)
	wantTwo(t, "longest", tell(impl.LongestToEnd([]int{-1})), 0, 1)
	wantNotTwo(t, "longest", tell(impl.LongestToEnd([]int{0})))
}

func TestBallsThatAreOutAtOnce(t *testing.T) {
	j := jumps(t, "-1,2,-30,30,1,-6")
	wantOut(t, j, 0, -1, 0)
	wantOut(t, j, 2, -1, 2)
	wantOut(t, j, 3, 6, 3)
	wantOut(t, j, 5, -1, 5)
	wantOut(t, j, 1, 6, 1, 3)
	wantOut(t, j, 4, -1, 4, 5)
	wantEnds(t, j, "abab"+"aa")
	wantLoops(t, j)
	wantTwo(t, "longest", tell(impl.LongestToEnd(j)), 1, 2)
}

// A ball that stays comes to its own step at each second.
func TestBallsThatStay(t *testing.T) {
	j := jumps(t, "0,-1,0,0")
	wantIn(t, j, 0, []int{0}, 0, 0)
	wantIn(t, j, 1, []int{1, 0}, 1, 0)
	wantLoops(t, j, []int{0}, []int{2}, []int{3})
	wantComing(t, j, []int{0, 1}, nil, []int{2}, []int{3})
	wantEnds(t, j, "llll")
	for _, time := range []int{0, 1, 2, 1000, impl.MaxBallTime} {
		n, ok := impl.PlaceAfter(j, 2, time)
		wantNumber(t, "place", n, ok, 2)
		n, ok = impl.NextPlace(j, 2)
		wantNumber(t, "next", n, ok, 2)
	}
	wantMeet(t, j, 0, 1, 1, 0)
	wantNoMeet(t, j, 2, 3)
	wantNotTwo(t, "longest", tell(impl.LongestToEnd(j)))
}

// A loop is told from its least step on, and not by where a ball comes to it.
func TestBallsThatComeToALoopLate(t *testing.T) {
	j := jumps(t, "1,1,1,3,-1,-1,-1,1")
	wantIn(t, j, 0, []int{0, 1, 2, 3, 6, 5, 4}, 3, 3, 6, 5, 4)
	wantIn(t, j, 5, []int{5, 4, 3, 6}, 0, 3, 6, 5, 4)
	wantOut(t, j, 7, 8, 7)
	wantLoops(t, j, []int{3, 6, 5, 4})
	for time, place := range []int{0, 1, 2, 3, 6, 5, 4, 3, 6, 5, 4, 3} {
		n, ok := impl.PlaceAfter(j, 0, time)
		wantNumber(t, "place", n, ok, place)
	}
	// Two loops, of which the one with the lesser step is told first, though its other steps are greater.
	wantLoops(t, jumps(t, "3,1,-1,-3"), []int{0, 3}, []int{1, 2})
	wantLoops(t, jumps(t, "2,2,-2,-2"), []int{0, 2}, []int{1, 3})
	wantLoops(t, jumps(t, "1,1,-1"), []int{1, 2})
}

// Balls that are out are on no step, though they may be out at one time.
func TestBallsThatMeetOnTheirWayOut(t *testing.T) {
	j := jumps(t, "2,2,2,1,1")
	wantMeet(t, j, 0, 1, 2, 4)
	wantMeet(t, j, 2, 3, 1, 4)
	wantNoMeet(t, j, 0, 2)
	wantNoMeet(t, j, 3, 4)
	wantNoMeet(t, jumps(t, "5,5"), 0, 1)
	wantNoMeet(t, jumps(t, "-1,-2"), 0, 1)
	wantNoMeet(t, jumps(t, "-1,1"), 0, 1)
	wantNoMeet(t, jumps(t, "1,1,1"), 0, 1)
}

func TestBallsThatMeetOnlyInALoop(t *testing.T) {
	j := jumps(t, "1,1,-2,-3,-1")
	wantMeet(t, j, 2, 3, 1, 0)
	wantMeet(t, j, 1, 4, 2, 0)
	wantNoMeet(t, j, 0, 4)
	wantNoMeet(t, j, 0, 1)
	wantNoMeet(t, j, 3, 4)
	// Both come from outside of the loop of 0 and 1, and the one goes around once until the other is there.
	j = jumps(t, "1,-1,-1,-1,-1,-1")
	wantMeet(t, j, 2, 4, 3, 1)
	wantMeet(t, j, 3, 5, 4, 1)
	wantNoMeet(t, j, 2, 5)
	// In loops of their own they never do.
	wantNoMeet(t, jumps(t, "1,-1,1,-1"), 0, 2)
	wantNoMeet(t, jumps(t, "1,-1,1,-1"), 0, 3)
}

// Whether two balls that are on one step at first meet is not asked, even if both stay there.
func TestBallsThatAreOnOneStepAtFirst(t *testing.T) {
	for _, j := range [][]int{ordinary(t), {0}, {0, 0}, {1, -1}, {1, 1}, {-1, -1}} {
		for step := range j {
			wantNoMeet(t, j, step, step)
			wantSameStep(t, j, step, step, step, step)
		}
	}
}

func TestPathsThatGoThroughTheOthersFirstStep(t *testing.T) {
	j := jumps(t, "1,1,1,1")
	wantSameStep(t, j, 0, 2, 2, 2)
	wantSameStep(t, j, 0, 3, 3, 3)
	wantNoMeet(t, j, 0, 2)
	// In a loop each one goes through the first step of the other one.
	j = jumps(t, "1,1,-2,-3,-4")
	wantSameStep(t, j, 0, 2, 0, 2)
	wantSameStep(t, j, 3, 1, 0, 1)
	wantSameStep(t, j, 3, 4, 0, 0)
	j = jumps(t, "1,-1,-1,0,-1,9,-9")
	wantSameStep(t, j, 2, 0, 1, 0)
	for _, pair := range [][2]int{{0, 3}, {0, 4}, {2, 4}, {2, 5}, {2, 6}, {4, 5}, {4, 6}, {5, 6}} {
		n, ok := impl.FirstSame(j, pair[0], pair[1])
		wantNoNumber(t, "first same", n, ok)
		n, ok = impl.FirstSame(j, pair[1], pair[0])
		wantNoNumber(t, "first same", n, ok)
	}
}

func TestStairToWhoseStepsNoBallComes(t *testing.T) {
	for _, j := range [][]int{{5, 5}, {-1, -2, -3}, {-1, 3, 1}, {30}, slices.Repeat([]int{30}, 30), slices.Repeat([]int{-30}, 30)} {
		wantComing(t, j, make([][]int, len(j))...)
		wantLoops(t, j)
		_, many, ok := impl.LongestToEnd(j)
		wantNumber(t, "longest", many, ok, 1)
	}
	// And one to all of whose steps a ball comes.
	list, ok := impl.NoneComes(jumps(t, "1,1,-2"))
	wantList(t, "none comes", list, ok)
	list, ok = impl.NoneComes([]int{0, 0})
	wantList(t, "none comes", list, ok)
}

func TestEndsThatNoBallHas(t *testing.T) {
	wantEnds(t, []int{0, 0}, "ll")
	wantEnds(t, []int{1, 1}, "bb")
	wantEnds(t, []int{-1, -1}, "aa")
	wantEnds(t, []int{-1, 1}, "ab")
	for _, end := range oddEnds() {
		for _, j := range [][]int{{0, 0}, {1, 1}, {-1, -1}, ordinary(t)} {
			list, ok := impl.StepsByEnd(j, end)
			wantNoList(t, "steps by "+end, list, ok)
		}
	}
}

// oddEnds returns texts of which none is an end.
func oddEnds() []string {
	return []string{"", " ", "A", "B", "L", "c", "k", "ab", "bl", "abl", "aa", "a ", " a", "a\n", "loop", "a\x00", "\x00", "\xff", "0", "-1"}
}

func TestLongestWays(t *testing.T) {
	for _, c := range []struct {
		text       string
		step, many int
	}{
		{"1,1,1,1", 0, 4}, {"-1,-1,-1,-1", 3, 4}, {"-1,-1,1,1", 1, 2}, {"2,-1,0,-3", 0, 0}, {"0,0,1,0,-1", 0, 0}, {"0,0,1,0,-5", 4, 1},
		{"2,-1,1,-3,1", 4, 1}, {"2,-1,1,-4,1", 1, 4}, {"5,5,5", 0, 1}, {"0,0,-3", 2, 1}, {"0,5,-3", 1, 1}, {"1,-1,5,-1", 3, 2},
	} {
		got := tell(impl.LongestToEnd(jumps(t, c.text)))
		if c.many == 0 {
			wantNotTwo(t, c.text, got)
		} else {
			wantTwo(t, c.text, got, c.step, c.many)
		}
	}
}

func TestChangesThatLeadOutBelow(t *testing.T) {
	for _, c := range []struct {
		text string
		want []int
	}{
		{"0,0,0", []int{3, 2, 1}},
		{"1,1,1", []int{0, 0, 0}},
		{"2,0,0", []int{1, 2, 1}},
		// It may be best to go up first, to be faster, or to be slower.
		{"3,0,0", []int{0, 1, 1}},
		{"4,-2,0,0", []int{0, 1, 2, 1}},
		{"2,-5,-5,9,-5", []int{1, -1, -1, 0, 2}},
		{"4,-5,-5,9,-5,-9", []int{1, -1, -1, 0, 2, -1}},
		// A change of 2 is none.
		{"-1", []int{-1}}, {"-2,-2", []int{-1, -1}}, {"-1,-1", []int{-1, -1}}, {"0,-1", []int{-1, -1}}, {"1,0", []int{1, 1}}, {"0,0", []int{2, 1}},
		{"1,-2", []int{1, 2}}, {"-1,-2,-3,-4,-5,30", []int{-1, -1, -1, -1, -1, 0}}, {"0,-1,-1,1", []int{-1, -1, -1, 0}},
	} {
		wantChanges(t, jumps(t, c.text), c.want...)
	}
}

func TestChangedJumps(t *testing.T) {
	j := ordinary(t)
	for step := range j {
		for _, jump := range []int{-30, -1, 0, 1, 7, 30} {
			want := slices.Clone(j)
			want[step] = jump
			list, ok := impl.ChangeJump(j, step, jump)
			wantList(t, "changed", list, ok, want...)
		}
		// A jump that is changed to itself.
		list, ok := impl.ChangeJump(j, step, j[step])
		wantList(t, "changed", list, ok, j...)
	}
}

func TestTurnedJumps(t *testing.T) {
	for text, want := range map[string][]int{
		"0": {0}, "1": {-1}, "30,-30": {30, -30}, "1,2,3": {-3, -2, -1}, "2,-1,2,1,-3,0": {0, 3, -1, -2, 1, -2}, "-30,0,0,0": {0, 0, 0, 30},
	} {
		list, ok := impl.TurnJumps(jumps(t, text))
		wantList(t, "turned", list, ok, want...)
	}
}
