package tests

import (
	"math/big"
	"testing"

	"loop.example/g01374/impl"
)

// ratio returns what is told as a number, and complains if it is not in lowest terms.
func ratio(t *testing.T, what string, got told) *big.Rat {
	t.Helper()
	if !got.ok || got.below < 1 {
		t.Fatalf("%s: got %d / %d, %v, want a fraction", what, got.above, got.below, got.ok)
	}
	r := big.NewRat(int64(got.above), int64(got.below))
	if r.Num().Int64() != int64(got.above) || r.Denom().Int64() != int64(got.below) {
		t.Fatalf("%s: got %d / %d, want lowest terms", what, got.above, got.below)
	}
	return r
}

func times(n int, r *big.Rat) *big.Rat { return new(big.Rat).Mul(big.NewRat(int64(n), 1), r) }

func less(a *big.Rat, b *big.Rat) *big.Rat { return new(big.Rat).Sub(a, b) }

func number(n int) *big.Rat { return big.NewRat(int64(n), 1) }

func wantSame(t *testing.T, what string, got *big.Rat, want *big.Rat) {
	t.Helper()
	if got.Cmp(want) != 0 {
		t.Errorf("%s: got %v, want %v", what, got, want)
	}
}

// eachMoving calls use with moving stairs of all speeds, long and short ones.
func eachMoving(t *testing.T, use func(m impl.Moving)) {
	t.Helper()
	for _, visible := range append(upTo(24), 60, 97, 360, 420, 499, impl.MaxVisible) {
		for speed := range impl.MaxPace + 1 {
			use(stair(visible, speed))
			if t.Failed() {
				t.Fatalf("visible %d, speed %d", visible, speed)
			}
		}
	}
}

// The first half of promise 3: times are ways divided by speeds.
func TestTimesAreWaysDividedBySpeeds(t *testing.T) {
	eachMoving(t, func(m impl.Moving) {
		var want []int
		for pace := range impl.MaxPace + 1 {
			if m.Speed+pace == 0 {
				continue
			}
			time := ratio(t, "time with", tell(impl.TimeWith(m, pace)))
			wantSame(t, "way with", times(m.Speed+pace, time), number(m.Visible))
			if time.IsInt() {
				want = append(want, pace)
			}
			holdWith(t, m, pace, time)
		}
		list, ok := impl.WholeTimes(m)
		wantList(t, "whole times", list, ok, want...)
		for each := 1; each <= 5; each++ {
			wantFraction(t, "full house", tell(impl.FullHouse(m, each)), 60*m.Speed*each, 1)
		}
		text, ok := impl.MovingText(m)
		if again, fine := impl.ParseMoving(text); !ok || !fine || again != m {
			t.Errorf("parsed: got %v from %q, want %v", again, text, m)
		}
	})
}

// holdWith holds all that follows from the time of one who walks with the stair.
func holdWith(t *testing.T, m impl.Moving, pace int, time *big.Rat) {
	steps := ratio(t, "steps with", tell(impl.StepsWith(m, pace)))
	wantSame(t, "steps with", steps, times(pace, time))
	wantSame(t, "round trip", ratio(t, "round trip", tell(impl.RoundTrip(m, pace))), times(2, time))
	if m.Speed > 0 && steps.IsInt() {
		wantFraction(t, "pace for steps", tell(impl.PaceForSteps(m, int(steps.Num().Int64()))), pace, 1)
	}
	for rail := range impl.MaxPace + 1 {
		lead := tell(impl.RailLead(m, rail, pace))
		if rail < m.Speed+pace {
			wantNoFraction(t, "rail lead", lead)
			continue
		}
		wantSame(t, "rail lead", ratio(t, "rail lead", lead), less(times(rail, time), number(m.Visible)))
	}
	for second := range 30 {
		n, ok := impl.PlaceAt(m, pace, second)
		if number(second).Cmp(time) < 0 {
			wantNumber(t, "place", n, ok, (m.Speed+pace)*second)
		} else {
			wantNumber(t, "place at the end", n, ok, m.Visible)
		}
	}
	if pace > m.Speed {
		holdAgainst(t, m, pace, steps)
	}
}

// holdAgainst holds those who walk against the stair, and both counts of one who has taken so many steps with it.
func holdAgainst(t *testing.T, m impl.Moving, pace int, steps *big.Rat) {
	time := ratio(t, "time against", tell(impl.TimeAgainst(m, pace)))
	wantSame(t, "way against", times(pace-m.Speed, time), number(m.Visible))
	against := ratio(t, "steps against", tell(impl.StepsAgainst(m, pace)))
	wantSame(t, "steps against", against, times(pace, time))
	if steps.IsInt() && against.IsInt() {
		got := tell(impl.VisibleFromBoth(pace, int(steps.Num().Int64()), int(against.Num().Int64())))
		wantFraction(t, "visible from both", got, m.Visible, 1)
	}
}

func TestPaceTakesItsSteps(t *testing.T) {
	eachMoving(t, func(m impl.Moving) {
		for steps := range m.Visible {
			got := tell(impl.PaceForSteps(m, steps))
			if m.Speed == 0 {
				wantNoFraction(t, "pace for steps", got)
				continue
			}
			// The stair carries one over the other steps in the time in which these are taken.
			pace := ratio(t, "pace for steps", got)
			wantSame(t, "pace for steps", times(m.Visible-steps, pace), number(m.Speed*steps))
		}
	})
}

// The second half of promise 3: who meet are at one step at one time.
func TestWhoMeetAreAtOneStep(t *testing.T) {
	eachMoving(t, func(m impl.Moving) {
		for up := range impl.MaxPace + 1 {
			for down := range impl.MaxPace + 1 {
				if m.Speed == 0 && up == 0 && down == 0 {
					continue
				}
				time := ratio(t, "meet time", tell(impl.MeetTime(m, up, down)))
				step := ratio(t, "meet step", tell(impl.MeetStep(m, up, down)))
				wantSame(t, "place of one", times(m.Speed+up, time), step)
				wantSame(t, "place of the other one", less(number(m.Visible), times(m.Speed+down, time)), step)
				if step.Sign() < 0 || step.Cmp(number(m.Visible)) > 0 {
					t.Error("met at", step)
				}
			}
		}
	})
}

func TestWhoCatchesUpIsBeside(t *testing.T) {
	eachMoving(t, func(m impl.Moving) {
		for _, slow := range []int{0, 1, 2, 7, 19} {
			for _, fast := range []int{1, 2, 3, 8, 19, 20} {
				for _, start := range []int{0, 1, 2, 3, 10, 49, 1000} {
					if slow < fast {
						holdCatchUp(t, m, slow, fast, start)
					}
				}
			}
		}
	})
}

func holdCatchUp(t *testing.T, m impl.Moving, slow int, fast int, start int) {
	got := tell(impl.CatchUp(m, slow, fast, start))
	// The slow one is at the end before if it takes less time than the start and the time of the fast one.
	if m.Speed+slow > 0 {
		end := less(ratio(t, "time", tell(impl.TimeWith(m, slow))), ratio(t, "time", tell(impl.TimeWith(m, fast))))
		if end.Cmp(number(start)) < 0 {
			wantNoFraction(t, "catch up", got)
			return
		}
	}
	time := ratio(t, "catch up", got)
	place := times(m.Speed+slow, time)
	wantSame(t, "place of the fast one", times(m.Speed+fast, less(time, number(start))), place)
	if time.Cmp(number(start)) < 0 || place.Cmp(number(m.Visible)) > 0 {
		t.Error("caught up after", time, "at", place)
	}
}

func TestTwoCountsTellOfTheStair(t *testing.T) {
	for pace := 1; pace <= 6; pace++ {
		for other := pace + 1; other <= 7; other++ {
			for steps := 1; steps <= 20; steps++ {
				for many := steps + 1; many <= 21; many++ {
					holdTwo(t, [4]int{pace, steps, other, many})
				}
			}
		}
	}
	if t.Failed() {
		return
	}
	eachMoving(t, func(m impl.Moving) {
		var counts [][2]int
		for pace := 1; pace <= impl.MaxPace; pace++ {
			if above, below, ok := impl.StepsWith(m, pace); ok && below == 1 {
				counts = append(counts, [2]int{pace, above})
			}
		}
		for i, a := range counts {
			for _, b := range counts[:i] {
				if m.Speed > 0 {
					wantFraction(t, "visible", tell(impl.VisibleFromTwo(b[0], b[1], a[0], a[1])), m.Visible, 1)
					wantFraction(t, "speed", tell(impl.SpeedFromTwo(b[0], b[1], a[0], a[1])), m.Speed, 1)
				}
			}
		}
	})
}

// holdTwo holds two counts against what the stair that they tell of would have both count.
func holdTwo(t *testing.T, two [4]int) {
	pace, steps, other, many := two[0], two[1], two[2], two[3]
	gotVisible := tell(impl.VisibleFromTwo(pace, steps, other, many))
	gotSpeed := tell(impl.SpeedFromTwo(pace, steps, other, many))
	// The greater the Speed, the nearer are both counts to each other; the less it is, the nearer to the ratio of the paces.
	if big.NewRat(int64(many), int64(steps)).Cmp(big.NewRat(int64(other), int64(pace))) >= 0 {
		wantNoFraction(t, "visible", gotVisible)
		wantNoFraction(t, "speed", gotSpeed)
		return
	}
	visible, speed := ratio(t, "visible", gotVisible), ratio(t, "speed", gotSpeed)
	if speed.Sign() <= 0 {
		t.Error("speed", speed, "of", two)
	}
	for _, one := range [][2]int{{pace, steps}, {other, many}} {
		time := big.NewRat(int64(one[1]), int64(one[0]))
		carried := new(big.Rat).Mul(speed, time)
		wantSame(t, "visible", new(big.Rat).Add(carried, number(one[1])), visible)
	}
}

func TestBothCountsTellOfTheStair(t *testing.T) {
	for with := 1; with <= 40; with++ {
		for against := 1; against <= 60; against++ {
			var all []told
			for _, pace := range []int{1, 3, impl.MaxPace} {
				all = append(all, tell(impl.VisibleFromBoth(pace, with, against)))
			}
			if all[1] != all[0] || all[2] != all[0] {
				t.Error("the pace shows in", all)
			}
			if against < with {
				wantNoFraction(t, "visible", all[0])
				continue
			}
			// By each step that is taken one comes as much farther with the stair as one falls short against it: two steps in all.
			visible := ratio(t, "visible", all[0])
			parts := new(big.Rat).Add(big.NewRat(1, int64(with)), big.NewRat(1, int64(against)))
			wantSame(t, "visible", new(big.Rat).Mul(visible, parts), number(2))
		}
	}
}
