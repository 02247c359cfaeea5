package tests

import (
	"math"
	"testing"

	"loop.example/g01374/impl"
)

// moving returns the moving stair with a text that is known to tell one.
func moving(t *testing.T, text string) impl.Moving {
	t.Helper()
	m, ok := impl.ParseMoving(text)
	if !ok {
		t.Fatalf("ParseMoving(%q) fails", text)
	}
	return m
}

func stair(visible int, speed int) impl.Moving { return impl.Moving{Visible: visible, Speed: speed} }

// oddMoving returns values of which none is a moving stair.
func oddMoving() []impl.Moving {
	return []impl.Moving{
		{}, stair(0, 2), stair(-1, 2), stair(impl.MaxVisible+1, 2), stair(math.MaxInt, 2), stair(math.MinInt, 2),
		stair(60, -1), stair(60, impl.MaxPace+1), stair(60, math.MaxInt), stair(60, math.MinInt), stair(math.MinInt, math.MinInt), stair(math.MaxInt, math.MaxInt), stair(-60, -2),
	}
}

func TestIsMoving(t *testing.T) {
	if impl.MaxVisible != 500 || impl.MaxPace != 20 {
		t.Error("other limits than the document's")
	}
	for _, m := range []impl.Moving{stair(1, 0), stair(1, 20), stair(500, 0), stair(500, 20), stair(60, 2)} {
		if !impl.IsMoving(m) {
			t.Errorf("%v is a moving stair", m)
		}
	}
	for _, m := range oddMoving() {
		if impl.IsMoving(m) {
			t.Errorf("%v is no moving stair", m)
		}
	}
}

func TestExampleOfMoving(t *testing.T) {
	m := moving(t, "60v2")
	wantFraction(t, "time with", tell(impl.TimeWith(m, 1)), 20, 1)
	wantFraction(t, "steps with", tell(impl.StepsWith(m, 1)), 20, 1)
	wantFraction(t, "time against", tell(impl.TimeAgainst(m, 3)), 60, 1)
	wantFraction(t, "steps against", tell(impl.StepsAgainst(m, 3)), 180, 1)
	wantFraction(t, "visible from two", tell(impl.VisibleFromTwo(1, 20, 2, 30)), 60, 1)
	wantFraction(t, "speed from two", tell(impl.SpeedFromTwo(1, 20, 2, 30)), 2, 1)
	wantFraction(t, "visible from both", tell(impl.VisibleFromBoth(3, 36, 180)), 60, 1)
	wantFraction(t, "pace for steps", tell(impl.PaceForSteps(m, 30)), 2, 1)
	wantFraction(t, "meet time", tell(impl.MeetTime(m, 1, 2)), 60, 7)
	wantFraction(t, "meet step", tell(impl.MeetStep(m, 1, 2)), 180, 7)
	wantFraction(t, "catch up", tell(impl.CatchUp(m, 1, 3, 4)), 10, 1)
	wantFraction(t, "round trip", tell(impl.RoundTrip(m, 1)), 40, 1)
	wantFraction(t, "rail lead", tell(impl.RailLead(m, 4, 1)), 20, 1)
	list, ok := impl.WholeTimes(m)
	wantList(t, "whole times", list, ok, 0, 1, 2, 3, 4, 8, 10, 13, 18)
	n, ok := impl.PlaceAt(m, 1, 7)
	wantNumber(t, "place", n, ok, 21)
	wantFraction(t, "full house", tell(impl.FullHouse(m, 3)), 360, 1)
}

func TestFractionsInLowestTerms(t *testing.T) {
	m := moving(t, "10v3")
	wantFraction(t, "time with", tell(impl.TimeWith(m, 1)), 5, 2)
	wantFraction(t, "steps with", tell(impl.StepsWith(m, 3)), 5, 1)
	wantFraction(t, "steps with", tell(impl.StepsWith(m, 6)), 20, 3)
	wantFraction(t, "time against", tell(impl.TimeAgainst(m, 7)), 5, 2)
	wantFraction(t, "steps against", tell(impl.StepsAgainst(m, 9)), 15, 1)
	wantFraction(t, "visible from two", tell(impl.VisibleFromTwo(2, 4, 3, 5)), 10, 1)
	wantFraction(t, "visible from two", tell(impl.VisibleFromTwo(2, 5, 4, 7)), 35, 3)
	wantFraction(t, "speed from two", tell(impl.SpeedFromTwo(2, 5, 4, 7)), 8, 3)
	wantFraction(t, "visible from both", tell(impl.VisibleFromBoth(5, 2, 6)), 3, 1)
	wantFraction(t, "visible from both", tell(impl.VisibleFromBoth(5, 2, 3)), 12, 5)
	wantFraction(t, "pace for steps", tell(impl.PaceForSteps(m, 4)), 2, 1)
	wantFraction(t, "pace for steps", tell(impl.PaceForSteps(m, 6)), 9, 2)
	wantFraction(t, "meet time", tell(impl.MeetTime(m, 1, 5)), 5, 6)
	wantFraction(t, "meet step", tell(impl.MeetStep(m, 1, 5)), 10, 3)
	wantFraction(t, "catch up", tell(impl.CatchUp(m, 0, 9, 1)), 4, 3)
	wantFraction(t, "round trip", tell(impl.RoundTrip(m, 5)), 5, 2)
	wantFraction(t, "rail lead", tell(impl.RailLead(m, 7, 1)), 15, 2)
}

func TestNothingIsToldAsZeroAndOne(t *testing.T) {
	m := moving(t, "60v6")
	wantFraction(t, "steps with", tell(impl.StepsWith(m, 0)), 0, 1)
	wantFraction(t, "pace for steps", tell(impl.PaceForSteps(m, 0)), 0, 1)
	wantFraction(t, "catch up", tell(impl.CatchUp(m, 1, 3, 0)), 0, 1)
	wantFraction(t, "rail lead", tell(impl.RailLead(m, 6, 0)), 0, 1)
	wantFraction(t, "rail lead", tell(impl.RailLead(m, 15, 9)), 0, 1)
	// Nobody goes up here.
	still := moving(t, "60v0")
	wantFraction(t, "meet step", tell(impl.MeetStep(still, 0, 7)), 0, 1)
	wantFraction(t, "full house", tell(impl.FullHouse(still, 5)), 0, 1)
}

func TestStairThatStands(t *testing.T) {
	m := moving(t, "60v0")
	wantNoFraction(t, "time with", tell(impl.TimeWith(m, 0)))
	wantNoFraction(t, "steps with", tell(impl.StepsWith(m, 0)))
	wantNoFraction(t, "time against", tell(impl.TimeAgainst(m, 0)))
	wantNoFraction(t, "steps against", tell(impl.StepsAgainst(m, 0)))
	wantNoFraction(t, "round trip", tell(impl.RoundTrip(m, 0)))
	wantNoFraction(t, "meet time", tell(impl.MeetTime(m, 0, 0)))
	wantNoFraction(t, "meet step", tell(impl.MeetStep(m, 0, 0)))
	// Who never comes to the end is ahead of nothing there, however fast the rail runs.
	wantNoFraction(t, "rail lead", tell(impl.RailLead(m, 0, 0)))
	wantNoFraction(t, "rail lead", tell(impl.RailLead(m, 20, 0)))
	for steps := range 60 {
		wantNoFraction(t, "pace for steps", tell(impl.PaceForSteps(m, steps)))
	}

	wantFraction(t, "time with", tell(impl.TimeWith(m, 8)), 15, 2)
	wantFraction(t, "steps with", tell(impl.StepsWith(m, 8)), 60, 1)
	wantFraction(t, "time against", tell(impl.TimeAgainst(m, 8)), 15, 2)
	wantFraction(t, "steps against", tell(impl.StepsAgainst(m, 8)), 60, 1)
	wantFraction(t, "round trip", tell(impl.RoundTrip(m, 8)), 15, 1)
	wantFraction(t, "meet time", tell(impl.MeetTime(m, 8, 0)), 15, 2)
	wantFraction(t, "meet step", tell(impl.MeetStep(m, 8, 0)), 60, 1)
	wantFraction(t, "meet step", tell(impl.MeetStep(m, 8, 4)), 40, 1)
	wantFraction(t, "rail lead", tell(impl.RailLead(m, 10, 8)), 15, 1)
	// Who stands on it waits at the lower end for ever.
	wantFraction(t, "catch up", tell(impl.CatchUp(m, 0, 5, 1000)), 1000, 1)
	list, ok := impl.WholeTimes(m)
	wantList(t, "whole times", list, ok, 1, 2, 3, 4, 5, 6, 10, 12, 15, 20)
	n, ok := impl.PlaceAt(m, 0, 1000)
	wantNumber(t, "place", n, ok, 0)
	n, ok = impl.PlaceAt(m, 3, 9)
	wantNumber(t, "place", n, ok, 27)
}

func TestPaceOfZero(t *testing.T) {
	m := moving(t, "45v6")
	wantFraction(t, "time with", tell(impl.TimeWith(m, 0)), 15, 2)
	wantFraction(t, "round trip", tell(impl.RoundTrip(m, 0)), 15, 1)
	wantNoFraction(t, "time against", tell(impl.TimeAgainst(m, 0)))
	wantNoFraction(t, "steps against", tell(impl.StepsAgainst(m, 0)))
	wantFraction(t, "meet time", tell(impl.MeetTime(m, 0, 0)), 15, 4)
	wantFraction(t, "meet step", tell(impl.MeetStep(m, 0, 0)), 45, 2)
	wantFraction(t, "catch up", tell(impl.CatchUp(m, 0, 9, 4)), 20, 3)
	wantFraction(t, "rail lead", tell(impl.RailLead(m, 8, 0)), 15, 1)
	n, ok := impl.PlaceAt(m, 0, 7)
	wantNumber(t, "place", n, ok, 42)
	// Who counts steps has to take some.
	wantNoFraction(t, "visible from two", tell(impl.VisibleFromTwo(0, 20, 2, 30)))
	wantNoFraction(t, "speed from two", tell(impl.SpeedFromTwo(0, 20, 2, 30)))
	wantNoFraction(t, "visible from both", tell(impl.VisibleFromBoth(0, 36, 180)))
}

func TestOneWhoNeverComesToTheEnd(t *testing.T) {
	for speed := range impl.MaxPace + 1 {
		m := stair(60, speed)
		for pace := range speed + 1 {
			wantNoFraction(t, "time against", tell(impl.TimeAgainst(m, pace)))
			wantNoFraction(t, "steps against", tell(impl.StepsAgainst(m, pace)))
		}
		if speed < impl.MaxPace {
			wantFraction(t, "time against", tell(impl.TimeAgainst(m, speed+1)), 60, 1)
			wantFraction(t, "steps against", tell(impl.StepsAgainst(m, speed+1)), 60*(speed+1), 1)
		}
	}
}

func TestCountsOfWhichNoSpeedTells(t *testing.T) {
	// Twice as many steps at twice the pace take the same time, more of them even longer.
	for _, many := range []int{40, 41, 10000} {
		wantNoFraction(t, "visible", tell(impl.VisibleFromTwo(1, 20, 2, many)))
		wantNoFraction(t, "speed", tell(impl.SpeedFromTwo(1, 20, 2, many)))
	}
	wantFraction(t, "visible", tell(impl.VisibleFromTwo(1, 20, 2, 39)), 780, 1)
	wantFraction(t, "speed", tell(impl.SpeedFromTwo(1, 20, 2, 39)), 38, 1)
	wantFraction(t, "visible", tell(impl.VisibleFromTwo(1, 20, 2, 21)), 420, 19)
	wantFraction(t, "speed", tell(impl.SpeedFromTwo(1, 20, 2, 21)), 2, 19)
}

func TestCatchUpAtTheEnd(t *testing.T) {
	// With a start of 12 they come to the end at once, after 30 seconds: the slow one is not there before.
	wantFraction(t, "catch up", tell(impl.CatchUp(moving(t, "90v2"), 1, 3, 12)), 30, 1)
	wantNoFraction(t, "catch up", tell(impl.CatchUp(moving(t, "89v2"), 1, 3, 12)))
	wantFraction(t, "catch up", tell(impl.CatchUp(moving(t, "91v2"), 1, 3, 12)), 30, 1)
	wantNoFraction(t, "catch up", tell(impl.CatchUp(moving(t, "90v2"), 1, 3, 13)))
}

func TestRailThatMovesSlower(t *testing.T) {
	m := moving(t, "60v5")
	wantFraction(t, "rail lead", tell(impl.RailLead(m, 7, 2)), 0, 1)
	wantFraction(t, "rail lead", tell(impl.RailLead(m, 8, 2)), 60, 7)
	for rail := range 7 {
		wantNoFraction(t, "rail lead", tell(impl.RailLead(m, rail, 2)))
	}
	// Even slower than the stair.
	wantNoFraction(t, "rail lead", tell(impl.RailLead(m, 4, 0)))
	wantNoFraction(t, "rail lead", tell(impl.RailLead(m, 20, 16)))
	wantFraction(t, "rail lead", tell(impl.RailLead(m, 20, 15)), 0, 1)
}

func TestWholeTimes(t *testing.T) {
	for text, want := range map[string][]int{
		"1v0": {1}, "1v1": {0}, "1v2": {}, "1v20": {}, "40v20": {0, 20}, "41v20": {}, "500v20": {0, 5},
		"500v0": {1, 2, 4, 5, 10, 20}, "499v0": {1}, "420v0": {1, 2, 3, 4, 5, 6, 7, 10, 12, 14, 15, 20},
	} {
		list, ok := impl.WholeTimes(moving(t, text))
		wantList(t, text, list, ok, want...)
	}
}
