package tests

import (
	"math/big"
	"slices"
	"testing"

	"loop.example/g01374/impl"
)

// A stand is where somebody stands who goes up a spiral: which step it is of those in a turn, from 0 on, and how high it is.
type stand struct {
	seat   int
	height int
}

// climbed goes up a spiral step by step, back to the seat 0 after each turn, and returns where one stands.
// The ground is the first one, so that each step has its own number.
func climbed(s impl.Spiral) []stand {
	stands := []stand{{}}
	seat, height := 0, 0
	for range s.Steps {
		height += s.Rise
		stands = append(stands, stand{seat, height})
		if seat++; seat == s.Round {
			seat = 0
		}
	}
	return stands
}

// around returns how many seats two seats are apart, found by going from the one to the other in both ways.
func around(round int, a int, b int) int {
	right, left := a, a
	for n := 0; ; n++ {
		if right == b || left == b {
			return n
		}
		if right++; right == round {
			right = 0
		}
		if left--; left < 0 {
			left = round - 1
		}
	}
}

// sideAt returns the side that is nearest to a seat. It is sought farther and farther away on a ring with so many marks
// that each seat, and each side, is on one; what one who goes up has passed is looked at first.
func sideAt(round int, seat int) string {
	marks := 4 * round
	sides := map[int]string{0: "n", round: "e", 2 * round: "s", 3 * round: "w"}
	for away := 0; ; away++ {
		for _, mark := range []int{4*seat - away, 4*seat + away} {
			if side, ok := sides[(mark+marks)%marks]; ok {
				return side
			}
		}
	}
}

// stepsOf returns all steps of a spiral for which a test holds, increasing.
func stepsOf(s impl.Spiral, test func(step int) bool) []int {
	return slices.DeleteFunc(upTo(s.Steps), func(step int) bool { return !test(step) })
}

// eachSpiral calls use with spirals of all rounds.
func eachSpiral(t *testing.T, steps []int, rises []int, use func(s impl.Spiral)) {
	t.Helper()
	for round := 3; round <= impl.MaxRound; round++ {
		for _, n := range append(steps, round-1, round, round+1, 2*round, 2*round+1) {
			for _, rise := range rises {
				use(wound(n, round, rise))
				if t.Failed() {
					t.Fatalf("spiral %d, %d, %d", n, round, rise)
				}
			}
		}
	}
}

// The first half of promise 6: angles go around by turns.
func TestAnglesGoAroundByTurns(t *testing.T) {
	eachSpiral(t, []int{1, 2, 7, 20, impl.MaxSpiral - 1, impl.MaxSpiral}, []int{1, 18, impl.MaxSpiralRise}, func(s impl.Spiral) {
		turns := number(0)
		each := big.NewRat(1, int64(s.Round))
		for step, at := range climbed(s) {
			if step == 0 {
				continue
			}
			if step > 1 {
				turns = new(big.Rat).Add(turns, each)
			}
			angle := ratio(t, "angle", tell(impl.AngleOf(s, step)))
			wantSame(t, "angle", angle, times(at.seat, each))
			// What is missing to the way that was gone are whole turns.
			if !less(turns, angle).IsInt() || angle.Sign() < 0 || angle.Cmp(number(1)) >= 0 {
				t.Fatalf("angle of %d: got %v behind %v turns", step, angle, turns)
			}
			n, ok := impl.HeightSpiral(s, step)
			wantNumber(t, "height", n, ok, at.height)
		}
		wantSame(t, "turns", ratio(t, "turns", tell(impl.TurnsOf(s))), turns)
		text, ok := impl.SpiralText(s)
		if again, fine := impl.ParseSpiral(text); !ok || !fine || again != s {
			t.Errorf("parsed: got %v from %q, want %v", again, text, s)
		}
	})
}

func TestStepsAgainstWaysAround(t *testing.T) {
	eachSpiral(t, []int{1, 2, 7, 20, 61}, []int{18}, func(s impl.Spiral) {
		stands := climbed(s)
		for a := 1; a <= s.Steps; a++ {
			for b := 1; b <= s.Steps; b++ {
				apart := around(s.Round, stands[a].seat, stands[b].seat)
				got := ratio(t, "apart", tell(impl.ApartAround(s, a, b)))
				wantSame(t, "apart", times(s.Round, got), number(apart))
				yes, ok := impl.AreOpposite(s, a, b)
				wantTruth(t, "opposite", yes, ok, apart+apart == s.Round)
			}
			holdAbove(t, s, stands, a)
		}
	})
}

// holdAbove holds which steps are above a step, and which ones opposite to it.
func holdAbove(t *testing.T, s impl.Spiral, stands []stand, step int) {
	t.Helper()
	above := stepsOf(s, func(other int) bool { return other > step && stands[other].seat == stands[step].seat })
	list, ok := impl.StepsAbove(s, step)
	wantList(t, "above", list, ok, above...)
	n, ok := impl.HeadOver(s, step)
	if len(above) == 0 {
		wantNoNumber(t, "head", n, ok)
	} else {
		wantNumber(t, "head", n, ok, stands[above[0]].height-stands[step].height)
	}
	opposite := stepsOf(s, func(other int) bool { return 2*around(s.Round, stands[step].seat, stands[other].seat) == s.Round })
	list, ok = impl.OppositeSteps(s, step)
	wantList(t, "opposite", list, ok, opposite...)
}

func TestSidesAgainstMarks(t *testing.T) {
	eachSpiral(t, []int{1, 2, 7, 20, impl.MaxSpiral}, []int{1}, func(s impl.Spiral) {
		var want string
		for _, at := range climbed(s)[1:] {
			want += sideAt(s.Round, at.seat)
		}
		wantSides(t, s, want)
	})
}

// The turn is enough for the head with the least round, and with none that is less.
func TestLeastRoundsLeaveTheHead(t *testing.T) {
	for rise := 1; rise <= impl.MaxSpiralRise; rise++ {
		for head := 0; head <= impl.MaxHead; head += 1 + head/25 {
			want := 0
			for round := impl.MaxRound; round >= 3; round-- {
				if round*rise >= head {
					want = round
				}
			}
			n, ok := impl.LeastRound(rise, head)
			if n != want || ok != (want > 0) {
				t.Fatalf("least round of %d for %d: got %d, %v, want %d", rise, head, n, ok, want)
			}
			if over, fine := impl.HeadOver(wound(impl.MaxSpiral, max(n, 3), rise), 1); ok && (!fine || over < head) {
				t.Fatalf("least round of %d for %d: got %d, with a head of %d", rise, head, n, over)
			}
		}
	}
}

// The second half of promise 6: dark steps are far from lamps.
func TestDarkStepsAreFarFromLamps(t *testing.T) {
	for _, steps := range []int{1, 2, 3, 7, 20, 41, impl.MaxSpiral} {
		s := wound(steps, 12, 18)
		for _, lamp := range []int{1, 2, 3, 5, 6, 7, 19, 20, 21, 40, 133, 399, 400} {
			for _, shine := range []int{0, 1, 2, 3, 6, 9, 19, 20, 132, 398, 399, 400} {
				lit := litBy(steps, lamp, shine)
				list, ok := impl.DarkSteps(s, lamp, shine)
				wantList(t, "dark", list, ok, stepsOf(s, func(step int) bool { return !lit[step] })...)
			}
			for _, window := range []int{1, 2, 3, 4, 5, 10, 20, 21, 57, 399, 400} {
				both := litBy(steps, lamp, 0)
				windows := litBy(steps, window, 0)
				list, ok := impl.LampsAndWindows(s, lamp, window)
				wantList(t, "both", list, ok, stepsOf(s, func(step int) bool { return both[step] && windows[step] })...)
			}
		}
	}
}

// litBy goes up to each lamp, and from there as far up and down as it shines, and returns for each step whether it is lit.
func litBy(steps int, lamp int, shine int) []bool {
	lit := make([]bool, steps+1)
	left := lamp
	for step := 1; step <= steps; step++ {
		if left--; left > 0 {
			continue
		}
		left = lamp
		for away := 0; away <= shine; away++ {
			for _, at := range []int{step - away, step + away} {
				if at >= 1 && at <= steps {
					lit[at] = true
				}
			}
		}
	}
	return lit
}

func TestFewestLampsAgainstAllPlaces(t *testing.T) {
	for steps := 1; steps <= 11; steps++ {
		for shine := range 13 {
			fewest := steps
			for lamps := range 1 << steps {
				if chosen := choose(upTo(steps), lamps); len(chosen) < fewest && shinesOnAll(steps, chosen, shine) {
					fewest = len(chosen)
				}
			}
			n, ok := impl.FewestLamps(wound(steps, 3, 1), shine)
			wantNumber(t, "lamps", n, ok, fewest)
		}
	}
	// Of long spirals the darkest step below is lit from as far up as can be.
	for steps := 12; steps <= impl.MaxSpiral; steps++ {
		for shine := 0; shine <= impl.MaxSpiral; shine += 1 + shine/3 {
			lamps := 0
			for dark := 1; dark <= steps; dark += shine + 1 + shine {
				lamps++
			}
			n, ok := impl.FewestLamps(wound(steps, 60, 1), shine)
			wantNumber(t, "lamps", n, ok, lamps)
		}
	}
}

func shinesOnAll(steps int, lamps []int, shine int) bool {
	for step := 1; step <= steps; step++ {
		near := func(lamp int) bool { return lamp-step <= shine && step-lamp <= shine }
		if !slices.ContainsFunc(lamps, near) {
			return false
		}
	}
	return true
}

func TestCountAnglesAgainstALongWayUp(t *testing.T) {
	for round := 3; round <= impl.MaxRound; round++ {
		for every := 1; every <= impl.MaxSpiral; every++ {
			seats := map[int]bool{}
			seat := every - 1
			// After so many turns all is as it was.
			for range round {
				seats[seat%round] = true
				seat += every
			}
			n, ok := impl.CountAngles(wound(20, round, 18), every)
			if !ok || n != len(seats) {
				t.Fatalf("angles of each %d of %d: got %d, %v, want %d", every, round, n, ok, len(seats))
			}
		}
	}
}

func TestTwinsAgainstAllPairsOfSteps(t *testing.T) {
	var all []impl.Spiral
	for _, steps := range []int{1, 19, 83, 400} {
		for _, round := range []int{3, 4, 6, 11, 12, 60} {
			for _, rise := range []int{1, 2, 9, 18, 300} {
				all = append(all, wound(steps, round, rise))
			}
		}
	}
	// Where a step is, with the part of a turn in steps of which all these rounds have a whole number.
	const whole = 660
	places := make([][]stand, len(all))
	known := make([]map[stand]bool, len(all))
	for i, s := range all {
		known[i] = map[stand]bool{}
		for _, at := range climbed(s)[1:] {
			place := stand{at.seat * (whole / s.Round), at.height}
			places[i] = append(places[i], place)
			known[i][place] = true
		}
	}
	for i, s := range all {
		for k, other := range all {
			list, ok := impl.TwinMeets(s, other)
			want := stepsOf(s, func(step int) bool { return known[k][places[i][step-1]] })
			if !ok || !slices.Equal(list, want) {
				t.Fatalf("meets of %v and %v: got %v, %v, want %v", s, other, list, ok, want)
			}
		}
	}
}

// Both spirals of a cut are together as high as the whole one, and each one begins anew.
func TestCutsAreToldForThemselves(t *testing.T) {
	eachSpiral(t, []int{1, 2, 20, 61}, []int{1, 18}, func(s impl.Spiral) {
		stands := climbed(s)
		for cut := 1; cut < s.Steps; cut++ {
			lower, upper, ok := impl.CutSpiral(s, cut)
			if !ok || lower != wound(cut, s.Round, s.Rise) || upper.Round != s.Round || upper.Rise != s.Rise {
				t.Fatalf("cut behind %d: got %v and %v, %v", cut, lower, upper, ok)
			}
			if a, b := climbed(lower), climbed(upper); a[lower.Steps].height+b[upper.Steps].height != stands[s.Steps].height {
				t.Fatalf("cut behind %d: got %v and %v", cut, lower, upper)
			}
			wantFraction(t, "angle", tell(impl.AngleOf(upper, 1)), 0, 1)
		}
		for _, cut := range []int{-1, 0, s.Steps, s.Steps + 1} {
			wantCut(t, s, cut, "", "")
		}
	})
}
