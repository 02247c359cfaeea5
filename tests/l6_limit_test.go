package tests

import (
	"math"
	"slices"
	"strings"
	"testing"

	"loop.example/g01374/impl"
)

func TestAnglesAtTheLimits(t *testing.T) {
	s := spiral(t, "400@60*300")
	wantFraction(t, "turns", tell(impl.TurnsOf(s)), 133, 20)
	wantFraction(t, "angle", tell(impl.AngleOf(s, 1)), 0, 1)
	wantFraction(t, "angle", tell(impl.AngleOf(s, 60)), 59, 60)
	wantFraction(t, "angle", tell(impl.AngleOf(s, 61)), 0, 1)
	wantFraction(t, "angle", tell(impl.AngleOf(s, 400)), 13, 20)
	list, ok := impl.StepsAbove(s, 1)
	wantList(t, "above", list, ok, 61, 121, 181, 241, 301, 361)
	list, ok = impl.StepsAbove(s, 340)
	wantList(t, "above", list, ok, 400)
	n, ok := impl.HeadOver(s, 340)
	wantNumber(t, "head", n, ok, 18000)
	n, ok = impl.HeightSpiral(s, 400)
	wantNumber(t, "height", n, ok, 120000)
	list, ok = impl.OppositeSteps(s, 400)
	wantList(t, "opposite", list, ok, 10, 70, 130, 190, 250, 310, 370)
	wantFraction(t, "apart", tell(impl.ApartAround(s, 400, 370)), 1, 2)
	wantFraction(t, "apart", tell(impl.ApartAround(s, 400, 371)), 29, 60)
	wantFraction(t, "apart", tell(impl.ApartAround(s, 369, 400)), 29, 60)

	s = spiral(t, "400@3*1")
	wantFraction(t, "turns", tell(impl.TurnsOf(s)), 133, 1)
	wantFraction(t, "turns", tell(impl.TurnsOf(wound(399, 3, 1))), 398, 3)
	wantFraction(t, "angle", tell(impl.AngleOf(s, 400)), 0, 1)
	n, ok = impl.HeadOver(s, 397)
	wantNumber(t, "head", n, ok, 3)
	wantFraction(t, "apart", tell(impl.ApartAround(s, 3, 1)), 1, 3)
	list, ok = impl.CountSides(s)
	wantList(t, "sides", list, ok, 134, 133, 0, 133)
	list, ok = impl.CountSides(spiral(t, "400@60*1"))
	wantList(t, "sides", list, ok, 98, 105, 105, 92)
	wantFraction(t, "turns", tell(impl.TurnsOf(wound(1, 60, 1))), 0, 1)
	wantFraction(t, "turns", tell(impl.TurnsOf(wound(2, 60, 1))), 1, 60)
}

// The last step has none above it, and there is none behind it.
func TestTheLastStep(t *testing.T) {
	for _, s := range []impl.Spiral{wound(1, 3, 1), wound(20, 12, 18), wound(13, 12, 18), wound(400, 3, 300), wound(400, 60, 1)} {
		list, ok := impl.StepsAbove(s, s.Steps)
		wantList(t, "above", list, ok)
		n, ok := impl.HeadOver(s, s.Steps)
		wantNoNumber(t, "head", n, ok)
		n, ok = impl.HeightSpiral(s, s.Steps)
		wantNumber(t, "height", n, ok, s.Steps*s.Rise)
		for _, step := range beyond(1, s.Steps) {
			wantNoStep(t, s, step)
		}
	}
}

// wantNoStep wants all calls to fail for a step that is none.
func wantNoStep(t *testing.T, s impl.Spiral, step int) {
	t.Helper()
	wantNoFraction(t, "angle", tell(impl.AngleOf(s, step)))
	list, ok := impl.StepsAbove(s, step)
	wantNoList(t, "above", list, ok)
	n, ok := impl.HeadOver(s, step)
	wantNoNumber(t, "head", n, ok)
	n, ok = impl.HeightSpiral(s, step)
	wantNoNumber(t, "height", n, ok)
	list, ok = impl.OppositeSteps(s, step)
	wantNoList(t, "opposite", list, ok)
	side, ok := impl.SideOf(s, step)
	if ok || side != "" {
		t.Errorf("side of %d: got %q, %v, want it to fail", step, side, ok)
	}
	for _, pair := range [][2]int{{step, 1}, {1, step}, {step, step}} {
		yes, ok := impl.AreOpposite(s, pair[0], pair[1])
		if yes || ok {
			t.Errorf("opposite %v: got %v, %v, want it to fail", pair, yes, ok)
		}
		wantNoFraction(t, "apart", tell(impl.ApartAround(s, pair[0], pair[1])))
	}
	wantCut(t, s, step, "", "")
}

func TestLeastRoundAtTheLimits(t *testing.T) {
	for _, c := range [][3]int{
		{18, 200, 12}, {18, 198, 11}, {18, 199, 12}, {18, 216, 12}, {18, 217, 13}, {18, 1080, 60},
		// A head of 0, or one so low that less than the least turn would do.
		{1, 0, 3}, {300, 0, 3}, {1, 1, 3}, {1, 3, 3}, {1, 4, 4}, {300, 1, 3}, {300, 900, 3}, {300, 901, 4}, {1, 60, 60},
		{300, 18000, 60}, {300, 17700, 59}, {300, 17701, 60}, {299, 17940, 60},
	} {
		n, ok := impl.LeastRound(c[0], c[1])
		wantNumber(t, "least round", n, ok, c[2])
	}
	for _, c := range [][2]int{{1, 61}, {18, 1081}, {300, 18001}, {1, 20000}, {18, 20000}, {300, 20000}, {299, 17941}} {
		n, ok := impl.LeastRound(c[0], c[1])
		wantNoNumber(t, "least round", n, ok)
	}
	for _, rise := range beyond(1, impl.MaxSpiralRise) {
		for _, head := range []int{0, 1, 200, 900} {
			n, ok := impl.LeastRound(rise, head)
			wantNoNumber(t, "least round", n, ok)
		}
	}
	for _, head := range beyond(0, impl.MaxHead) {
		n, ok := impl.LeastRound(300, head)
		wantNoNumber(t, "least round", n, ok)
		n, ok = impl.LeastRound(1, head)
		wantNoNumber(t, "least round", n, ok)
	}
}

func TestSidesThatThereAre(t *testing.T) {
	s := spiral(t, "20@12*18")
	for _, side := range oddSides() {
		list, ok := impl.StepsAtSide(s, side)
		wantNoList(t, "steps at "+side, list, ok)
	}
	// Where no step looks to a side, the list of all that do is empty, and the call succeeds.
	for _, side := range []string{"e", "s", "w"} {
		list, ok := impl.StepsAtSide(wound(1, 60, 1), side)
		wantList(t, "steps at "+side, list, ok)
	}
	list, ok := impl.StepsAtSide(wound(400, 3, 1), "s")
	wantList(t, "steps at s", list, ok)
}

// oddSides returns texts of which none is a side.
func oddSides() []string {
	return []string{"", " ", "N", "E", "S", "W", "o", "a", "ne", "es", "sw", "nesw", "nn", "n ", " n", "n\n", "north", "n\x00", "\x00", "\xff", "é", strings.Repeat("n", 100000)}
}

func TestLampsAtTheLimits(t *testing.T) {
	s := spiral(t, "400@60*300")
	for _, c := range [][2]int{{0, 400}, {1, 134}, {2, 80}, {3, 58}, {199, 2}, {200, 1}, {399, 1}, {400, 1}} {
		n, ok := impl.FewestLamps(s, c[0])
		wantNumber(t, "lamps", n, ok, c[1])
	}
	for _, c := range [][3]int{{20, 2, 4}, {20, 9, 2}, {20, 10, 1}, {19, 9, 1}, {21, 10, 1}, {22, 10, 2}, {1, 400, 1}, {3, 1, 1}, {4, 1, 2}} {
		n, ok := impl.FewestLamps(wound(c[0], 12, 18), c[1])
		wantNumber(t, "lamps", n, ok, c[2])
	}
	list, ok := impl.DarkSteps(s, 400, 0)
	wantList(t, "dark", list, ok, upTo(399)...)
	list, ok = impl.DarkSteps(s, 400, 398)
	wantList(t, "dark", list, ok, 1)
	list, ok = impl.DarkSteps(s, 400, 400)
	wantList(t, "dark", list, ok)
	list, ok = impl.DarkSteps(s, 1, 400)
	wantList(t, "dark", list, ok)
	list, ok = impl.LampsAndWindows(s, 400, 1)
	wantList(t, "both", list, ok, 400)
	list, ok = impl.LampsAndWindows(s, 400, 399)
	wantList(t, "both", list, ok)
	for _, shine := range beyond(0, impl.MaxSpiral) {
		list, ok = impl.DarkSteps(s, 5, shine)
		wantNoList(t, "dark", list, ok)
		n, ok := impl.FewestLamps(s, shine)
		wantNoNumber(t, "lamps", n, ok)
	}
	for _, every := range beyond(1, impl.MaxSpiral) {
		list, ok = impl.LampsAndWindows(s, every, 1)
		wantNoList(t, "both", list, ok)
		list, ok = impl.LampsAndWindows(s, 1, every)
		wantNoList(t, "both", list, ok)
		list, ok = impl.DarkSteps(s, every, 1)
		wantNoList(t, "dark", list, ok)
		n, ok := impl.CountAngles(s, every)
		wantNoNumber(t, "angles", n, ok)
	}
}

func TestCountAnglesAtTheLimits(t *testing.T) {
	for _, c := range [][3]int{
		{12, 8, 3}, {12, 1, 12}, {12, 12, 1}, {12, 13, 12}, {12, 24, 1}, {12, 400, 3}, {60, 400, 3}, {60, 399, 20}, {60, 360, 1}, {60, 1, 60}, {3, 1, 3}, {3, 3, 1}, {3, 400, 3}, {59, 400, 59},
	} {
		// How many steps there are does not matter: the spiral has no end here.
		for _, steps := range []int{1, 20, 400} {
			n, ok := impl.CountAngles(wound(steps, c[0], 18), c[1])
			wantNumber(t, "angles", n, ok, c[2])
		}
	}
}

func TestTwinsAtTheLimits(t *testing.T) {
	for _, c := range []struct {
		s, t string
		want []int
	}{
		{"400@60*300", "400@60*300", upTo(400)},
		{"400@3*1", "400@3*1", upTo(400)},
		{"400@60*300", "400@59*300", []int{1}},
		{"400@60*1", "1@60*300", nil},
		{"400@12*1", "1@12*300", nil},
		{"400@23*1", "1@23*300", []int{300}},
		{"1@23*300", "400@23*1", []int{1}},
		{"400@3*1", "399@3*1", upTo(399)},
		{"400@20*1", "400@19*1", []int{1, 381}},
	} {
		list, ok := impl.TwinMeets(spiral(t, c.s), spiral(t, c.t))
		wantList(t, c.s+" and "+c.t, list, ok, c.want...)
	}
	s := spiral(t, "20@12*18")
	for _, odd := range oddSpirals() {
		list, ok := impl.TwinMeets(s, odd)
		wantNoList(t, "meets", list, ok)
		list, ok = impl.TwinMeets(odd, s)
		wantNoList(t, "meets", list, ok)
		list, ok = impl.TwinMeets(odd, odd)
		wantNoList(t, "meets", list, ok)
	}
}

func TestCutsAtTheLimits(t *testing.T) {
	s := spiral(t, "400@60*300")
	wantCut(t, s, 1, "1@60*300", "399@60*300")
	wantCut(t, s, 200, "200@60*300", "200@60*300")
	wantCut(t, s, 399, "399@60*300", "1@60*300")
	wantCut(t, spiral(t, "2@3*1"), 1, "1@3*1", "1@3*1")
	for _, step := range beyond(1, 399) {
		wantCut(t, s, step, "", "")
	}
}

func TestTextsOfSpirals(t *testing.T) {
	for text, want := range map[string]impl.Spiral{
		"1@3*1": wound(1, 3, 1), "20@12*18": wound(20, 12, 18), "400@60*300": wound(400, 60, 300), "10@10*10": wound(10, 10, 10), "7@16*175": wound(7, 16, 175),
	} {
		s, ok := impl.ParseSpiral(text)
		if !ok || s != want {
			t.Errorf("%s: got %v, %v", text, s, ok)
		}
		again, ok := impl.SpiralText(want)
		wantText(t, "text", again, ok, text)
	}
	for _, s := range oddSpirals() {
		if text, ok := impl.SpiralText(s); ok || text != "" {
			t.Errorf("%v has the text %q, %v", s, text, ok)
		}
	}
	for _, text := range oddSpiralTexts() {
		s, ok := impl.ParseSpiral(text)
		wantSpiral(t, text, s, ok, "")
	}
}

// oddSpiralTexts returns texts of which none tells a spiral.
func oddSpiralTexts() []string {
	return []string{
		"", "@", "*", "@*", "20", "20@", "20@12", "20@12*", "20@*18", "@12*18", "20*12@18", "20*12*18", "20@12@18", "20@12*18@", "20@12*18*", "20@12*18*5", "20@12*18@5",
		"@20@12*18", "*20@12*18", "20@@12*18", "20@12**18", "020@12*18", "20@012*18", "20@12*018", "+20@12*18", "20@+12*18", "20@12*+18", "-20@12*18", "20@-12*18", "20@12*-18",
		"20@12*-0", " 20@12*18", "20@12*18 ", "20 @12*18", "20@ 12*18", "20@12 *18", "20@12* 18", "20@12*18\n", "20,12,18", "20@12x18", "20a12*18",
		"1_0@12*18", "20@1_2*18", "20@12*1_8", "0x4@12*18", "20@12*1e1", "20@12.0*18", "x@12*18", "20@x*18", "20@12*x", "20@12*18x",
		"0@12*18", "20@0*18", "20@2*18", "20@12*0", "401@12*18", "20@61*18", "20@12*301",
		"18446744073709551636@12*18", "20@18446744073709551628*18", "20@12*18446744073709551634", "99999999999999999999@12*18", "20@12*99999999999999999999",
		"٤@12*18", "20@12*18\x00", "\xff", strings.Repeat("1*", 100000) + "1", strings.Repeat("1", 100000) + "@12*18", "20@12*" + strings.Repeat("0", 100000),
		strings.Repeat("@", 100000), strings.Repeat("*", 100000), "20@" + strings.Repeat("12*", 100000) + "18",
	}
}

// A spiral has no steps but its own, though these numbers may stand for one if they went around, by turns or by bits.
func TestStepsThatWouldGoAround(t *testing.T) {
	s := spiral(t, "20@12*18")
	for _, step := range slices.Concat(beyond(1, 20), []int{math.MinInt + 5, math.MaxInt - 5, 1 << 32, 1<<32 + 5, -1 << 32, 20 + 12, 5 - 12}) {
		wantNoStep(t, s, step)
	}
}
