package tests

import (
	"math"
	"strings"
	"testing"

	"loop.example/g01374/impl"
)

func TestMovingAtTheLimits(t *testing.T) {
	m := moving(t, "500v20")
	wantFraction(t, "time with", tell(impl.TimeWith(m, 20)), 25, 2)
	wantFraction(t, "steps with", tell(impl.StepsWith(m, 20)), 250, 1)
	wantFraction(t, "time against", tell(impl.TimeAgainst(moving(t, "500v19"), 20)), 500, 1)
	wantFraction(t, "steps against", tell(impl.StepsAgainst(moving(t, "500v19"), 20)), 10000, 1)
	wantFraction(t, "meet time", tell(impl.MeetTime(m, 20, 20)), 25, 4)
	wantFraction(t, "meet step", tell(impl.MeetStep(m, 20, 20)), 250, 1)
	wantFraction(t, "catch up", tell(impl.CatchUp(moving(t, "500v0"), 0, 20, 1000)), 1000, 1)
	wantNoFraction(t, "catch up", tell(impl.CatchUp(m, 0, 20, 1000)))
	wantFraction(t, "round trip", tell(impl.RoundTrip(m, 20)), 25, 1)
	wantFraction(t, "rail lead", tell(impl.RailLead(moving(t, "500v1"), 20, 0)), 9500, 1)
	wantFraction(t, "full house", tell(impl.FullHouse(m, 5)), 6000, 1)
	wantFraction(t, "full house", tell(impl.FullHouse(m, 1)), 1200, 1)
	n, ok := impl.PlaceAt(m, 20, 12)
	wantNumber(t, "place", n, ok, 480)
	n, ok = impl.PlaceAt(m, 20, 13)
	wantNumber(t, "place", n, ok, 500)
	n, ok = impl.PlaceAt(m, 20, 1000)
	wantNumber(t, "place", n, ok, 500)
	n, ok = impl.PlaceAt(m, 20, 0)
	wantNumber(t, "place", n, ok, 0)
}

// Bounds of fields and paces do not bound what a function returns.
func TestResultsBeyondTheLimits(t *testing.T) {
	wantFraction(t, "pace for steps", tell(impl.PaceForSteps(moving(t, "500v20"), 499)), 9980, 1)
	wantFraction(t, "pace for steps", tell(impl.PaceForSteps(moving(t, "60v2"), 59)), 118, 1)
	wantFraction(t, "pace for steps", tell(impl.PaceForSteps(moving(t, "1v20"), 0)), 0, 1)
	wantFraction(t, "visible from two", tell(impl.VisibleFromTwo(19, 9482, 20, 9981)), 9482*9981, 1)
	wantFraction(t, "speed from two", tell(impl.SpeedFromTwo(19, 9482, 20, 9981)), 499*19*20, 1)
	wantFraction(t, "visible from two", tell(impl.VisibleFromTwo(1, 9999, 20, 10000)), 9999*10000*19/20, 9499)
	wantFraction(t, "speed from two", tell(impl.SpeedFromTwo(1, 9999, 20, 10000)), 1, 9499)
	wantFraction(t, "speed from two", tell(impl.SpeedFromTwo(19, 9501, 20, 10000)), 499*19, 1)
	wantFraction(t, "visible from two", tell(impl.VisibleFromTwo(19, 9501, 20, 10000)), 9501*500, 1)
	wantFraction(t, "visible from both", tell(impl.VisibleFromBoth(20, 10000, 10000)), 10000, 1)
	wantFraction(t, "visible from both", tell(impl.VisibleFromBoth(1, 1, 1)), 1, 1)
	wantFraction(t, "visible from both", tell(impl.VisibleFromBoth(1, 1, 10000)), 20000, 10001)
}

func beyondPaces() []int {
	return []int{math.MinInt, math.MinInt + 1, -1, impl.MaxPace + 1, math.MaxInt - 1, math.MaxInt}
}

func TestPacesBeyondTheLimits(t *testing.T) {
	for _, m := range []impl.Moving{moving(t, "60v2"), moving(t, "60v0")} {
		for _, pace := range beyondPaces() {
			wantNoFraction(t, "time with", tell(impl.TimeWith(m, pace)))
			wantNoFraction(t, "steps with", tell(impl.StepsWith(m, pace)))
			wantNoFraction(t, "time against", tell(impl.TimeAgainst(m, pace)))
			wantNoFraction(t, "steps against", tell(impl.StepsAgainst(m, pace)))
			wantNoFraction(t, "meet time", tell(impl.MeetTime(m, pace, 2)))
			wantNoFraction(t, "meet time", tell(impl.MeetTime(m, 2, pace)))
			wantNoFraction(t, "meet step", tell(impl.MeetStep(m, pace, 2)))
			wantNoFraction(t, "meet step", tell(impl.MeetStep(m, 2, pace)))
			wantNoFraction(t, "catch up", tell(impl.CatchUp(m, pace, 3, 1)))
			wantNoFraction(t, "catch up", tell(impl.CatchUp(m, 1, pace, 1)))
			wantNoFraction(t, "catch up", tell(impl.CatchUp(m, pace, pace, 1)))
			wantNoFraction(t, "round trip", tell(impl.RoundTrip(m, pace)))
			wantNoFraction(t, "rail lead", tell(impl.RailLead(m, pace, 1)))
			wantNoFraction(t, "rail lead", tell(impl.RailLead(m, 20, pace)))
			n, ok := impl.PlaceAt(m, pace, 1)
			wantNoNumber(t, "place", n, ok)
		}
	}
}

func TestTwoCountsBeyondTheLimits(t *testing.T) {
	lists := [][4]int{
		{2, 20, 2, 30}, {2, 20, 1, 30}, {20, 20, 21, 21}, {1, 20, 21, 30}, {1, 30, 2, 30}, {1, 31, 2, 30}, {1, 0, 2, 30}, {1, -20, 2, 30}, {1, -20, 2, -10},
		{1, 9999, 2, 10001}, {1, 10000, 2, 10000}, {1, 10000, 2, 10001}, {-2, 20, -1, 30}, {-1, 20, 2, 30}, {1, math.MaxInt, 2, math.MinInt}, {1, math.MinInt, 2, math.MaxInt},
		{math.MinInt, 20, math.MaxInt, 30}, {math.MaxInt, 20, math.MinInt, 30}, {math.MaxInt, 20, 2, 30}, {1, 20, math.MaxInt, 30}, {1, math.MaxInt, 2, math.MaxInt},
	}
	for _, l := range lists {
		wantNoFraction(t, "visible from two", tell(impl.VisibleFromTwo(l[0], l[1], l[2], l[3])))
		wantNoFraction(t, "speed from two", tell(impl.SpeedFromTwo(l[0], l[1], l[2], l[3])))
	}
	for _, l := range [][3]int{
		{21, 36, 180}, {-3, 36, 180}, {3, 36, 35}, {3, 0, 180}, {3, -36, 180}, {3, -36, -35}, {3, 36, 10001}, {3, 10001, 10001}, {3, 0, 0},
		{3, math.MinInt, math.MaxInt}, {3, math.MaxInt, math.MaxInt}, {math.MaxInt, 36, 180}, {math.MinInt, 36, 180},
	} {
		wantNoFraction(t, "visible from both", tell(impl.VisibleFromBoth(l[0], l[1], l[2])))
	}
}

func TestNumbersBeyondTheLimitsOfMoving(t *testing.T) {
	m := moving(t, "60v2")
	for _, steps := range []int{math.MinInt, -1, 60, 61, math.MaxInt} {
		wantNoFraction(t, "pace for steps", tell(impl.PaceForSteps(m, steps)))
	}
	wantNoFraction(t, "pace for steps", tell(impl.PaceForSteps(moving(t, "1v20"), 1)))
	slowly := moving(t, "500v0")
	for _, start := range []int{math.MinInt, -1, 1001, math.MaxInt} {
		wantNoFraction(t, "catch up", tell(impl.CatchUp(slowly, 0, 1, start)))
		n, ok := impl.PlaceAt(m, 1, start)
		wantNoNumber(t, "place", n, ok)
	}
	// The fast one has to be faster.
	for slow := range impl.MaxPace + 1 {
		for fast := range slow + 1 {
			wantNoFraction(t, "catch up", tell(impl.CatchUp(slowly, slow, fast, 0)))
		}
	}
	for _, each := range []int{math.MinInt, -1, 0, 6, math.MaxInt} {
		wantNoFraction(t, "full house", tell(impl.FullHouse(m, each)))
	}
}

func TestTextsOfMoving(t *testing.T) {
	for text, want := range map[string]impl.Moving{"1v0": stair(1, 0), "60v2": stair(60, 2), "500v20": stair(500, 20), "10v10": stair(10, 10)} {
		m, ok := impl.ParseMoving(text)
		if !ok || m != want {
			t.Errorf("%s: got %v, %v", text, m, ok)
		}
		again, ok := impl.MovingText(want)
		if !ok || again != text {
			t.Errorf("%v: got %q, %v, want %q", want, again, ok, text)
		}
	}
	for _, m := range oddMoving() {
		if text, ok := impl.MovingText(m); ok || text != "" {
			t.Errorf("%v has the text %q, %v", m, text, ok)
		}
	}
	for _, text := range oddMovingTexts() {
		if m, ok := impl.ParseMoving(text); ok || m != (impl.Moving{}) {
			t.Errorf("%q: got %v, %v", text, m, ok)
		}
	}
}

// oddMovingTexts returns texts of which none tells a moving stair.
func oddMovingTexts() []string {
	return []string{
		"", "v", "60", "60v", "v2", "60v2v", "60v2v1", "v60v2", "60vv2", "060v2", "60v02", "60v00", "+60v2", "60v+2", "60v-0", "-60v2", "60v-2",
		" 60v2", "60v2 ", "60 v2", "60v 2", "60v2\n", "60V2", "60,2", "6_0v2", "6e1v2", "0x3cv2", "60v2x", "x60v2", "0v2", "501v2", "60v21",
		"18446744073709551676v2", "60v18446744073709551618", "99999999999999999999v2", "٦v2", "60v2\x00", "\xff",
		strings.Repeat("1v", 100000) + "1", strings.Repeat("1", 100000) + "v2", "60v" + strings.Repeat("0", 100000), strings.Repeat("v", 100000),
	}
}
