package tests

import (
	"maps"
	"runtime"
	"slices"
	"strings"
	"sync"
	"testing"
	"time"

	"loop.example/g01374/impl"
)

// A film tells where a ball is at each second, from 0 on: at -1 as long as it is out above, behind the last step as long as it is out below.
type film []int

// jumped carries a ball from a step by steps of one, as many as its number tells, and no farther than out of the stair.
func jumped(j []int, at int) int {
	left := j[at]
	for ; left > 0 && at < len(j); left-- {
		at++
	}
	for ; left < 0 && at >= 0; left++ {
		at--
	}
	return at
}

func isStepOf(j []int, at int) bool { return at >= 0 && at < len(j) }

// filmed watches a ball until each loop that there can be has been gone around, from wherever the ball comes to it.
func filmed(j []int, step int) film {
	f := film{step}
	for at := step; len(f) < 3*len(j)+2; f = append(f, at) {
		if isStepOf(j, at) {
			at = jumped(j, at)
		}
	}
	return f
}

// path returns the beginning of a film, until the ball is out or where it was before.
func (f film) path(j []int) []int {
	n := 0
	for isStepOf(j, f[n]) && !slices.Contains(f[:n], f[n]) {
		n++
	}
	return f[:n]
}

// end tells where the ball is when the film is over.
func (f film) end(j []int) string {
	switch f[len(f)-1] {
	case -1:
		return "a"
	case len(j):
		return "b"
	}
	return "l"
}

// loop returns what a ball that is never out does from its least step on that is on the last part of the film.
func (f film) loop(j []int) []int {
	if f.end(j) != "l" {
		return nil
	}
	late := f[len(j):]
	from := slices.Index(late, slices.Min(late))
	around := slices.Index(late[from+1:], late[from]) + 1
	return late[from : from+around]
}

// toLoop returns when the ball is on a step of the loop for the first time.
func (f film) toLoop(loop []int) int {
	return slices.IndexFunc(f, func(at int) bool { return slices.Contains(loop, at) })
}

// afterLong returns where a ball is after many seconds, which are doubled again and again.
func afterLong(j []int, step int, seconds int) int {
	// The first place is out above, the last one out below.
	next := []int{0}
	for at := range j {
		next = append(next, jumped(j, at)+1)
	}
	next = append(next, len(j)+1)
	place := step + 1
	for ; seconds > 0; seconds /= 2 {
		if seconds%2 == 1 {
			place = next[place]
		}
		twice := make([]int, len(next))
		for at, to := range next {
			twice[at] = next[to]
		}
		next = twice
	}
	return place - 1
}

// smallJumps returns all jumps of 1 up to so many steps by at most so many steps.
func smallJumps(steps int, most int) [][]int {
	all := [][]int{nil}
	for from := 0; steps > 0; steps-- {
		until := len(all)
		for _, above := range all[from:until] {
			for jump := -most; jump <= most; jump++ {
				all = append(all, append(above[:len(above):len(above)], jump))
			}
		}
		from = until
	}
	return all[1:]
}

// variedJumps returns jumps of longer stairs: in turn such that no ball is ever out, that some are, and that most go down step by step,
// but are often held up.
func variedJumps() [][]int {
	var all [][]int
	z := 1
	next := func(below int) int {
		z = (z*293 + 907) % 10007
		return z % below
	}
	for steps := 5; steps <= impl.MaxBallSteps; steps++ {
		for kind := range 12 {
			j := make([]int, steps)
			for step := range j {
				switch kind % 3 {
				case 0:
					j[step] = next(steps) - step
				case 1:
					j[step] = max(-impl.MaxJump, min(next(steps+4)-2-step, impl.MaxJump))
				case 2:
					j[step] = next(5) - 2
				}
			}
			all = append(all, j)
		}
	}
	return all
}

// eachJumps calls use with jumps of all kinds, and with the films of their balls.
func eachJumps(t *testing.T, use func(j []int, films []film)) {
	t.Helper()
	for _, j := range slices.Concat(smallJumps(4, 4), variedJumps()) {
		var films []film
		for step := range j {
			films = append(films, filmed(j, step))
		}
		use(j, films)
		if t.Failed() {
			t.Fatalf("jumps %v", j)
		}
	}
}

// The first half of promise 7: paths go jump by jump.
func TestPathsGoJumpByJump(t *testing.T) {
	eachJumps(t, func(j []int, films []film) {
		for step, f := range films {
			n, ok := impl.NextPlace(j, step)
			wantNumber(t, "next", n, ok, f[1])
			path, ok := impl.PathOfBall(j, step)
			wantList(t, "path", path, ok, f.path(j)...)
			for i, at := range path[1:] {
				n, ok = impl.NextPlace(j, path[i])
				wantNumber(t, "next on the path", n, ok, at)
			}
			for _, time := range []int{0, 1, 2, len(j) - 1, len(j), len(j) + 1, len(f) - 1} {
				n, ok = impl.PlaceAfter(j, step, time)
				wantNumber(t, "place", n, ok, f[time])
			}
			for _, time := range []int{100, 999983, impl.MaxBallTime - 1, impl.MaxBallTime} {
				n, ok = impl.PlaceAfter(j, step, time)
				wantNumber(t, "place", n, ok, afterLong(j, step, time))
			}
		}
	})
}

// The second half of promise 7: each step has one end.
func TestEachStepHasOneEnd(t *testing.T) {
	eachJumps(t, func(j []int, films []film) {
		var ends strings.Builder
		for _, f := range films {
			ends.WriteString(f.end(j))
		}
		wantEnds(t, j, ends.String())
		above, below, loop, ok := impl.CountByEnd(j)
		wantNumber(t, "all ends", above+below+loop, ok, len(j))
		first, most := 0, 0
		for step, f := range films {
			if out := f.path(j); f.end(j) != "l" && len(out) > most {
				first, most = step, len(out)
			}
		}
		if got := tell(impl.LongestToEnd(j)); most == 0 {
			wantNotTwo(t, "longest", got)
		} else {
			wantTwo(t, "longest", got, first, most)
		}
	})
}

func TestLoopsAgainstFilms(t *testing.T) {
	eachJumps(t, func(j []int, films []film) {
		var loops [][]int
		for step, f := range films {
			loop := f.loop(j)
			list, ok := impl.LoopOfBall(j, step)
			n, fine := impl.TimeToLoop(j, step)
			if len(loop) == 0 {
				wantNoList(t, "loop", list, ok)
				wantNoNumber(t, "time to loop", n, fine)
				continue
			}
			wantList(t, "loop", list, ok, loop...)
			wantNumber(t, "time to loop", n, fine, f.toLoop(loop))
			if !slices.ContainsFunc(loops, func(known []int) bool { return slices.Equal(known, loop) }) {
				loops = append(loops, loop)
			}
		}
		slices.SortFunc(loops, slices.Compare)
		wantLoops(t, j, loops...)
	})
}

func TestWhereBallsComeFrom(t *testing.T) {
	eachJumps(t, func(j []int, films []film) {
		coming := make([][]int, len(j))
		for step, f := range films {
			if isStepOf(j, f[1]) {
				coming[f[1]] = append(coming[f[1]], step)
			}
		}
		wantComing(t, j, coming...)
	})
}

func TestPairsAgainstFilms(t *testing.T) {
	eachJumps(t, func(j []int, films []film) {
		for a, f := range films {
			for b, g := range films {
				holdPair(t, j, a, b, f, g)
			}
		}
	})
}

// holdPair holds when and where two balls meet, and which step of the one path is the first on the other.
func holdPair(t *testing.T, j []int, a int, b int, f film, g film) {
	t.Helper()
	var want told
	for time, at := range f {
		if a != b && !want.ok && at == g[time] && isStepOf(j, at) {
			want = told{time, at, true}
		}
	}
	if got := tell(impl.BallsMeet(j, a, b)); got != want {
		t.Errorf("meet of %d and %d: got %v, want %v", a, b, got, want)
	}
	path, other := f.path(j), g.path(j)
	at := slices.IndexFunc(path, func(step int) bool { return slices.Contains(other, step) })
	n, ok := impl.FirstSame(j, a, b)
	if at < 0 {
		wantNoNumber(t, "first same", n, ok)
	} else {
		wantNumber(t, "first same", n, ok, path[at])
	}
}

// leastOfAll tries all changes of all steps, and returns the fewest with which each ball is out below at last, and -1 if none help.
func leastOfAll(j []int) []int {
	fewest := slices.Repeat([]int{-1}, len(j))
	changed := slices.Clone(j)
	try := func(int, int) {}
	try = func(step int, changes int) {
		if step < len(j) {
			for change := -1; change <= 1; change++ {
				if changed[step] = j[step] + change; changed[step] >= -impl.MaxJump && changed[step] <= impl.MaxJump {
					try(step+1, changes+change*change)
				}
			}
			return
		}
		for from := range j {
			if (fewest[from] < 0 || changes < fewest[from]) && filmed(changed, from).end(j) == "b" {
				fewest[from] = changes
			}
		}
	}
	try(0, 0)
	return fewest
}

// leastByRounds returns the same for one step: with each round a change more is allowed on all steps that were reached,
// and from where it leads all jumps are followed as they are.
func leastByRounds(j []int, step int) int {
	reached := map[int]bool{}
	follow := func(at int) {
		for ; isStepOf(j, at) && !reached[at]; at = jumped(j, at) {
			reached[at] = true
		}
		if at == len(j) {
			reached[at] = true
		}
	}
	follow(step)
	for changes := 0; changes <= len(j); changes++ {
		if reached[len(j)] {
			return changes
		}
		for _, at := range slices.Collect(maps.Keys(reached)) {
			for _, to := range []int{at + j[at] - 1, at + j[at] + 1} {
				if to >= 0 {
					follow(min(to, len(j)))
				}
			}
		}
	}
	return -1
}

func TestFewestChangesAgainstAll(t *testing.T) {
	for _, j := range append(smallJumps(4, 4), [][]int{{30, -30, 0}, {-30, 29, -29, 30}, {30, 30, 30, 30, 30}, {-30, -30}, {-3, 2, -2, 0, 1, -5, -1}, {1, -1, 1, -3, 0, -2, -1}, {0, 0, 0, 0, 0, 0, 0}}...) {
		wantChanges(t, j, leastOfAll(j)...)
		if t.Failed() {
			t.Fatalf("jumps %v", j)
		}
	}
}

func TestFewestChangesOfLongStairs(t *testing.T) {
	eachJumps(t, func(j []int, films []film) {
		var want []int
		for step := range j {
			want = append(want, leastByRounds(j, step))
		}
		wantChanges(t, j, want...)
		// Who is out below at last needs no change, and nobody else does without one.
		for step, f := range films {
			if (want[step] == 0) != (f.end(j) == "b") {
				t.Errorf("changes from %d: want %d, its end is %s", step, want[step], f.end(j))
			}
		}
	})
}

// On the turned stair all balls go the other way.
func TestTurnedStairs(t *testing.T) {
	eachJumps(t, func(j []int, films []film) {
		turned, ok := impl.TurnJumps(j)
		again, fine := impl.TurnJumps(turned)
		wantList(t, "turned twice", again, ok && fine, j...)
		for step, f := range films {
			g := filmed(turned, len(j)-1-step)
			for time, at := range f {
				if g[time] != len(j)-1-at {
					t.Fatalf("turned %v: got %v", j, turned)
				}
			}
		}
		text, ok := impl.JumpsText(j)
		parsed, fine := impl.ParseJumps(text)
		wantList(t, "parsed", parsed, ok && fine, j...)
	})
}

// A ball that goes around for ever is stopped when its path is known: nothing of a call goes on behind it.
func TestNoBallGoesOnBehindACall(t *testing.T) {
	before := runtime.NumGoroutine()
	for range 1000 {
		for step := range 3 {
			list, ok := impl.PathOfBall([]int{1, 1, -2}, step)
			wantNumber(t, "steps of the path", len(list), ok, 3)
			list, ok = impl.PathOfBall([]int{1, 1, 1}, step)
			wantNumber(t, "steps of the path", len(list), ok, 3-step)
		}
	}
	// One that has said its last word may still be there for a moment.
	for wait := 0; runtime.NumGoroutine() > before && wait < 1000; wait++ {
		time.Sleep(time.Millisecond)
	}
	if after := runtime.NumGoroutine(); after > before {
		t.Errorf("%d goroutines before, %d behind the calls", before, after)
	}
}

// Calls at one time know nothing of each other, though they are given the same jumps.
func TestBallsAtOneTime(t *testing.T) {
	j := ordinary(t)
	var group sync.WaitGroup
	for range 8 {
		group.Go(func() {
			for range 200 {
				wantEnds(t, j, "lallllllabba")
				wantLoops(t, j, []int{2, 3, 7}, []int{6})
				n, ok := impl.PlaceAfter(j, 0, impl.MaxBallTime)
				wantNumber(t, "place", n, ok, 3)
			}
		})
	}
	group.Wait()
}
