package tests

import (
	"math"
	"slices"
	"strings"
	"testing"

	"loop.example/g01374/impl"
)

// around30 returns the jumps of the longest stair on which each ball goes around over all steps, by so many down or up at once.
func around30(by int) []int {
	j := make([]int, impl.MaxBallSteps)
	for step := range j {
		j[step] = (step+by)%len(j) - step
	}
	return j
}

func down30() []int { return slices.Repeat([]int{1}, impl.MaxBallSteps) }

func from0(last int) []int { return append([]int{0}, upTo(last)...) }

func TestLongestLoop(t *testing.T) {
	j := around30(7)
	loop := make([]int, 30)
	for i := range loop {
		loop[i] = 7 * i % 30
	}
	wantLoops(t, j, loop)
	wantEnds(t, j, strings.Repeat("l", 30))
	for step := range j {
		n, ok := impl.TimeToLoop(j, step)
		wantNumber(t, "time to loop", n, ok, 0)
		list, ok := impl.LoopOfBall(j, step)
		wantList(t, "loop", list, ok, loop...)
		list, ok = impl.PathOfBall(j, step)
		at := slices.Index(loop, step)
		wantList(t, "path", list, ok, slices.Concat(loop[at:], loop[:at])...)
		for _, time := range []int{0, 1, 29, 30, 31, 59, 60, 1000, 999999999999, impl.MaxBallTime} {
			n, ok = impl.PlaceAfter(j, step, time)
			wantNumber(t, "place", n, ok, (step+7*(time%30))%30)
		}
		list, ok = impl.ComingTo(j, step)
		wantList(t, "coming", list, ok, (step+23)%30)
		if step > 0 {
			wantNoMeet(t, j, 0, step)
			wantSameStep(t, j, 0, step, 0, step)
		}
	}
	wantLoops(t, around30(1), from0(29))
	wantLoops(t, around30(15), pairs(15)...)
	wantLoops(t, around30(0), singles(30)...)
}

// pairs returns the loops of two steps each that are so far apart, singles those of one step.
func pairs(apart int) [][]int {
	var loops [][]int
	for step := range apart {
		loops = append(loops, []int{step, step + apart})
	}
	return loops
}

func singles(steps int) [][]int {
	var loops [][]int
	for step := range steps {
		loops = append(loops, []int{step})
	}
	return loops
}

func TestLongestWayOut(t *testing.T) {
	j := down30()
	wantOut(t, j, 0, 30, from0(29)...)
	wantOut(t, j, 29, 30, 29)
	wantEnds(t, j, strings.Repeat("b", 30))
	wantTwo(t, "longest", tell(impl.LongestToEnd(j)), 0, 30)
	n, ok := impl.FirstSame(j, 0, 29)
	wantNumber(t, "first same", n, ok, 29)
	j, ok = impl.TurnJumps(j)
	wantList(t, "turned", j, ok, slices.Repeat([]int{-1}, 30)...)
	down := from0(29)
	slices.Reverse(down)
	wantOut(t, j, 29, -1, down...)
	wantEnds(t, j, strings.Repeat("a", 30))
	wantTwo(t, "longest", tell(impl.LongestToEnd(j)), 29, 30)
	// No jump up becomes one down by 1.
	wantChanges(t, j, slices.Repeat([]int{-1}, 30)...)
	// Those that stay have to be changed one by one.
	changes := upTo(30)
	slices.Reverse(changes)
	wantChanges(t, make([]int, 30), changes...)
}

func TestLatestLoop(t *testing.T) {
	j := down30()
	j[29] = 0
	wantIn(t, j, 0, from0(29), 29, 29)
	wantLoops(t, j, []int{29})
	for _, time := range []int{0, 1, 28, 29, 30, impl.MaxBallTime} {
		n, ok := impl.PlaceAfter(j, 0, time)
		wantNumber(t, "place", n, ok, min(time, 29))
	}
	j[29] = -14
	wantIn(t, j, 0, from0(29), 15, 15, 16, 17, 18, 19, 20, 21, 22, 23, 24, 25, 26, 27, 28, 29)
	for _, c := range [][2]int{{14, 14}, {15, 15}, {29, 29}, {30, 15}, {44, 29}, {45, 15}, {impl.MaxBallTime - 1, 24}, {impl.MaxBallTime, 25}} {
		n, ok := impl.PlaceAfter(j, 0, c[0])
		wantNumber(t, "place", n, ok, c[1])
	}
}

// The one ball goes around, or stays, until the other one has come down all steps to it.
func TestLatestMeetings(t *testing.T) {
	j := slices.Repeat([]int{-1}, 30)
	j[0] = 0
	wantMeet(t, j, 0, 29, 29, 0)
	wantMeet(t, j, 28, 29, 29, 0)
	wantMeet(t, j, 0, 1, 1, 0)
	j[0] = 1
	wantMeet(t, j, 1, 29, 28, 1)
	wantNoMeet(t, j, 0, 29)
	wantMeet(t, j, 27, 29, 28, 1)
	wantSameStep(t, j, 1, 29, 1, 1)
	wantSameStep(t, j, 0, 29, 0, 1)
	j = around30(1)
	j[29] = 0
	wantMeet(t, j, 0, 29, 29, 29)
}

func TestGreatestJumps(t *testing.T) {
	for _, step := range []int{0, 1, 15, 28, 29} {
		j := around30(1)
		j[step] = impl.MaxJump
		n, ok := impl.NextPlace(j, step)
		wantNumber(t, "next", n, ok, 30)
		wantOut(t, j, step, 30, step)
		j[step] = -impl.MaxJump
		n, ok = impl.NextPlace(j, step)
		wantNumber(t, "next", n, ok, -1)
		wantOut(t, j, step, -1, step)
	}
	// A jump of 29 leads over the whole stair, and one of 30 out of it, also if it is changed to be so.
	j := make([]int, 30)
	j[0], j[29] = 29, -29
	wantIn(t, j, 0, []int{0, 29}, 0, 0, 29)
	// From the last step a ball comes to the first one, and from all between them step by step to the nearer one.
	var changes []int
	for step := range j {
		changes = append(changes, min(step+1, 30-step))
	}
	wantChanges(t, j, changes...)
	j[29] = -30
	wantOut(t, j, 0, -1, 0, 29)
	n, ok := impl.FewestChanges(j, 0)
	wantNumber(t, "changes", n, ok, 1)
	n, ok = impl.FewestChanges(j, 29)
	wantNumber(t, "changes", n, ok, 2)
}

func TestTimesOfPlaces(t *testing.T) {
	for _, j := range [][]int{{0}, {1}, {-1}, ordinary(t), around30(7), down30()} {
		for step := range j {
			n, ok := impl.PlaceAfter(j, step, 0)
			wantNumber(t, "place", n, ok, step)
			for _, time := range []int{math.MinInt, math.MinInt + 1, -1, impl.MaxBallTime + 1, math.MaxInt - 1, math.MaxInt} {
				n, ok = impl.PlaceAfter(j, step, time)
				wantNoNumber(t, "place", n, ok)
			}
		}
	}
}

func TestStepsOfNoStair(t *testing.T) {
	for _, j := range [][]int{{0}, {1}, {1, 1, -2, 3}, ordinary(t), around30(7), down30()} {
		for _, step := range []int{math.MinInt, math.MinInt + 1, -30, -2, -1, len(j), len(j) + 1, 31, 1 << 32, math.MaxInt - 1, math.MaxInt} {
			wantNoBall(t, j, step)
		}
	}
}

// wantNoBall wants all calls to fail for a step that is none.
func wantNoBall(t *testing.T, j []int, step int) {
	t.Helper()
	for _, call := range []func([]int, int) (int, bool){impl.NextPlace, impl.TimeToLoop, impl.FewestChanges} {
		n, ok := call(j, step)
		wantNoNumber(t, "number", n, ok)
	}
	for _, call := range []func([]int, int) ([]int, bool){impl.PathOfBall, impl.LoopOfBall, impl.ComingTo} {
		list, ok := call(j, step)
		wantNoList(t, "list", list, ok)
	}
	if end, ok := impl.EndOfBall(j, step); ok || end != "" {
		t.Errorf("end of %d: got %q, %v, want it to fail", step, end, ok)
	}
	n, ok := impl.PlaceAfter(j, step, 0)
	wantNoNumber(t, "place", n, ok)
	list, ok := impl.ChangeJump(j, step, 1)
	wantNoList(t, "changed", list, ok)
	for _, pair := range [][2]int{{step, 0}, {0, step}, {step, step}} {
		wantNotTwo(t, "meet", tell(impl.BallsMeet(j, pair[0], pair[1])))
		n, ok = impl.FirstSame(j, pair[0], pair[1])
		wantNoNumber(t, "first same", n, ok)
	}
}

func TestChangesBeyondTheLimits(t *testing.T) {
	for _, j := range [][]int{{0}, {30}, {-30}, ordinary(t), down30()} {
		for _, jump := range []int{math.MinInt, math.MinInt + 1, -32, -31, 31, 32, 1 << 32, math.MaxInt - 1, math.MaxInt} {
			list, ok := impl.ChangeJump(j, 0, jump)
			wantNoList(t, "changed", list, ok)
		}
		for _, jump := range []int{-30, 30} {
			list, ok := impl.ChangeJump(j, len(j)-1, jump)
			wantList(t, "changed", list, ok, append(slices.Clone(j[:len(j)-1]), jump)...)
		}
	}
}

func TestTextsOfJumps(t *testing.T) {
	for text, want := range map[string][]int{
		"0": {0}, "-1": {-1}, "30": {30}, "-30": {-30}, "2,-1,2,1,-3,0": {2, -1, 2, 1, -3, 0}, "10,-10,0": {10, -10, 0}, "30,-30": {30, -30},
		strings.Repeat("-30,", 29) + "-30": slices.Repeat([]int{-30}, 30), strings.Repeat("0,", 29) + "0": make([]int, 30),
	} {
		j, ok := impl.ParseJumps(text)
		wantList(t, text, j, ok, want...)
		again, ok := impl.JumpsText(want)
		wantText(t, "text", again, ok, text)
	}
	for _, j := range oddJumps() {
		if text, ok := impl.JumpsText(j); ok || text != "" {
			t.Errorf("%v have the text %q, %v", j, text, ok)
		}
	}
	for _, text := range oddJumpsTexts() {
		j, ok := impl.ParseJumps(text)
		wantNoList(t, text, j, ok)
	}
}

// oddJumpsTexts returns texts of which none tells jumps.
func oddJumpsTexts() []string {
	return []string{
		"", ",", "1,", ",1", "1,,2", ",1,2", "1,2,", "+1", "1,+2", "-0", "1,-0", "00", "01", "-01", "1,02", "1,-02", "--1", "-", "1,-", "-,1", "1-2", "1--2", "- 1", "1 -2",
		" 1", "1 ", "1, 2", "1 ,2", "1\n", "1,2\n", "\n1", "1;2", "1.2", "1.0", "1e1", "0x1", "1_0", "1,x", "x", "1x", "1,2x3", "31", "-31", "1,31,1", "1,-31", "100", "-100",
		"18446744073709551617", "1,-18446744073709551617", "99999999999999999999", "-99999999999999999999", "9223372036854775807", "-9223372036854775808",
		"−1", "٤", "1\x00", "\x00", "\xff", "1,\xff", strings.Repeat("0,", 30) + "0", strings.Repeat("1,", 100000) + "1", strings.Repeat("1", 100000), strings.Repeat("0", 100000),
		strings.Repeat(",", 100000), strings.Repeat("-", 100000), "1," + strings.Repeat("0", 100000) + "1",
	}
}
