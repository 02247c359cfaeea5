package tests

import (
	"math"
	"testing"

	"loop.example/g01374/impl"
)

// spiral returns the spiral with a text that is known to tell one.
func spiral(t *testing.T, text string) impl.Spiral {
	t.Helper()
	s, ok := impl.ParseSpiral(text)
	if !ok {
		t.Fatalf("ParseSpiral(%q) fails", text)
	}
	return s
}

func wound(steps int, round int, rise int) impl.Spiral {
	return impl.Spiral{Steps: steps, Round: round, Rise: rise}
}

// oddSpirals returns values of which none is a spiral.
func oddSpirals() []impl.Spiral {
	return []impl.Spiral{
		{}, wound(0, 12, 18), wound(-1, 12, 18), wound(impl.MaxSpiral+1, 12, 18), wound(math.MaxInt, 12, 18), wound(math.MinInt, 12, 18),
		wound(20, 0, 18), wound(20, -12, 18), wound(20, 1, 18), wound(20, 2, 18), wound(20, impl.MaxRound+1, 18), wound(20, math.MaxInt, 18), wound(20, math.MinInt, 18),
		wound(20, 12, 0), wound(20, 12, -18), wound(20, 12, impl.MaxSpiralRise+1), wound(20, 12, math.MaxInt), wound(20, 12, math.MinInt),
		// One step has none above it, but a turn and a rise are told all the same.
		wound(1, 2, 1), wound(1, 3, 0),
		wound(-20, -12, -18), wound(math.MinInt, math.MinInt, math.MinInt), wound(math.MaxInt, math.MaxInt, math.MaxInt), wound(math.MinInt, math.MaxInt, math.MinInt),
	}
}

// wantSpiral holds a spiral against a text, and wants the call to fail if the text is empty.
func wantSpiral(t *testing.T, what string, got impl.Spiral, ok bool, want string) {
	t.Helper()
	if want == "" {
		if ok || got != (impl.Spiral{}) {
			t.Errorf("%s: got %v, %v, want it to fail", what, got, ok)
		}
		return
	}
	text, fine := impl.SpiralText(got)
	if !ok || !fine || text != want {
		t.Errorf("%s: got %v, %v, want %s", what, got, ok, want)
	}
}

// wantCut holds both spirals against texts, and wants the call to fail if these are empty.
func wantCut(t *testing.T, s impl.Spiral, step int, first string, second string) {
	t.Helper()
	lower, upper, ok := impl.CutSpiral(s, step)
	wantSpiral(t, "lower spiral", lower, ok, first)
	wantSpiral(t, "upper spiral", upper, ok, second)
}

func wantTruth(t *testing.T, what string, got bool, ok bool, want bool) {
	t.Helper()
	if !ok || got != want {
		t.Errorf("%s: got %v, %v, want %v", what, got, ok, want)
	}
}

func wantText(t *testing.T, what string, got string, ok bool, want string) {
	t.Helper()
	if !ok || got != want {
		t.Errorf("%s: got %q, %v, want %q", what, got, ok, want)
	}
}

// wantSides holds to which sides the steps look, each one told by its letter, the first one first.
func wantSides(t *testing.T, s impl.Spiral, want string) {
	t.Helper()
	if len(want) != s.Steps {
		t.Fatalf("%v has other steps than %q", s, want)
	}
	at := map[string][]int{}
	for i, side := range want {
		got, ok := impl.SideOf(s, i+1)
		wantText(t, "side", got, ok, string(side))
		at[string(side)] = append(at[string(side)], i+1)
	}
	counts, ok := impl.CountSides(s)
	wantList(t, "counts", counts, ok, len(at["n"]), len(at["e"]), len(at["s"]), len(at["w"]))
	for _, side := range []string{"n", "e", "s", "w"} {
		list, ok := impl.StepsAtSide(s, side)
		wantList(t, "steps at "+side, list, ok, at[side]...)
	}
}

func TestIsSpiral(t *testing.T) {
	if impl.MaxSpiral != 400 || impl.MaxRound != 60 || impl.MaxSpiralRise != 300 || impl.MaxHead != 20000 {
		t.Error("other limits than the document's")
	}
	for _, s := range []impl.Spiral{
		wound(1, 3, 1), wound(400, 3, 1), wound(1, 60, 1), wound(1, 3, 300), wound(400, 60, 300), wound(20, 12, 18),
	} {
		if !impl.IsSpiral(s) {
			t.Errorf("%v is a spiral", s)
		}
	}
	for _, s := range oddSpirals() {
		if impl.IsSpiral(s) {
			t.Errorf("%v is no spiral", s)
		}
	}
}

func TestExampleOfAngles(t *testing.T) {
	s := spiral(t, "20@12*18")
	if s != wound(20, 12, 18) {
		t.Error("parsed", s)
	}
	wantFraction(t, "angle", tell(impl.AngleOf(s, 5)), 1, 3)
	list, ok := impl.StepsAbove(s, 5)
	wantList(t, "above", list, ok, 17)
	n, ok := impl.HeadOver(s, 5)
	wantNumber(t, "head", n, ok, 216)
	wantFraction(t, "turns", tell(impl.TurnsOf(s)), 19, 12)
	yes, ok := impl.AreOpposite(s, 2, 8)
	wantTruth(t, "opposite", yes, ok, true)
	yes, ok = impl.AreOpposite(s, 2, 20)
	wantTruth(t, "opposite", yes, ok, true)
	list, ok = impl.OppositeSteps(s, 2)
	wantList(t, "opposite", list, ok, 8, 20)
	wantFraction(t, "apart", tell(impl.ApartAround(s, 1, 11)), 1, 6)
	n, ok = impl.LeastRound(18, 200)
	wantNumber(t, "least round", n, ok, 12)
	n, ok = impl.CountAngles(s, 8)
	wantNumber(t, "angles", n, ok, 3)
}

func TestExampleOfSidesAndLamps(t *testing.T) {
	s := spiral(t, "20@12*18")
	wantSides(t, s, "nneeessswwwnnneeesss")
	side, ok := impl.SideOf(s, 2)
	wantText(t, "side", side, ok, "n")
	side, ok = impl.SideOf(s, 3)
	wantText(t, "side", side, ok, "e")
	list, ok := impl.CountSides(s)
	wantList(t, "sides", list, ok, 5, 6, 6, 3)
	list, ok = impl.DarkSteps(s, 5, 1)
	wantList(t, "dark", list, ok, 1, 2, 3, 7, 8, 12, 13, 17, 18)
	list, ok = impl.TwinMeets(s, spiral(t, "40@12*9"))
	wantList(t, "meets", list, ok, 12)
	n, ok := impl.HeightSpiral(s, 12)
	wantNumber(t, "height", n, ok, 216)
	text, ok := impl.SpiralText(s)
	wantText(t, "text", text, ok, "20@12*18")
}

// A spiral as in a tower, of more than three turns.
func TestOrdinarySpiral(t *testing.T) {
	s := spiral(t, "57@16*19")
	wantFraction(t, "angle", tell(impl.AngleOf(s, 1)), 0, 1)
	wantFraction(t, "angle", tell(impl.AngleOf(s, 16)), 15, 16)
	wantFraction(t, "angle", tell(impl.AngleOf(s, 17)), 0, 1)
	wantFraction(t, "angle", tell(impl.AngleOf(s, 57)), 1, 2)
	wantFraction(t, "turns", tell(impl.TurnsOf(s)), 7, 2)
	list, ok := impl.StepsAbove(s, 7)
	wantList(t, "above", list, ok, 23, 39, 55)
	list, ok = impl.StepsAbove(s, 23)
	wantList(t, "above", list, ok, 39, 55)
	n, ok := impl.HeadOver(s, 7)
	wantNumber(t, "head", n, ok, 304)
	list, ok = impl.OppositeSteps(s, 30)
	wantList(t, "opposite", list, ok, 6, 22, 38, 54)
	wantFraction(t, "apart", tell(impl.ApartAround(s, 2, 53)), 3, 16)
	list, ok = impl.LampsAndWindows(s, 6, 4)
	wantList(t, "both", list, ok, 12, 24, 36, 48)
	list, ok = impl.DarkSteps(s, 14, 5)
	wantList(t, "dark", list, ok, 1, 2, 3, 4, 5, 6, 7, 8, 20, 21, 22, 34, 35, 36, 48, 49, 50)
	n, ok = impl.FewestLamps(s, 5)
	wantNumber(t, "lamps", n, ok, 6)
	n, ok = impl.CountAngles(s, 6)
	wantNumber(t, "angles", n, ok, 8)
	list, ok = impl.TwinMeets(s, wound(57, 8, 19))
	wantList(t, "meets", list, ok, 1, 17, 33, 49)
	wantCut(t, s, 20, "20@16*19", "37@16*19")
}

// Of two sides that are as near a step looks to that which it has passed.
func TestStepsThatAreAsNearToTwoSides(t *testing.T) {
	wantSides(t, wound(17, 8, 1), "nneessww"+"nneessww"+"n")
	wantSides(t, wound(16, 16, 1), "nnneeeesssswwwwn")
	wantSides(t, wound(9, 4, 1), "nesw"+"nesw"+"n")
	wantSides(t, wound(24, 24, 1), "nnnneeeeeessssss"+"wwwwwwnn")
}

// No four sides part these turns evenly.
func TestSidesOfRoundsThatFourDoesNotPart(t *testing.T) {
	wantSides(t, wound(7, 3, 1), "new"+"new"+"n")
	wantSides(t, wound(11, 5, 1), "nessw"+"nessw"+"n")
	wantSides(t, wound(13, 6, 1), "neesww"+"neesww"+"n")
	wantSides(t, wound(8, 7, 1), "neessww"+"n")
	wantSides(t, wound(10, 10, 1), "nneesssww"+"n")
}

func TestSpiralOfOneStep(t *testing.T) {
	s := spiral(t, "1@3*7")
	wantFraction(t, "angle", tell(impl.AngleOf(s, 1)), 0, 1)
	wantFraction(t, "turns", tell(impl.TurnsOf(s)), 0, 1)
	list, ok := impl.StepsAbove(s, 1)
	wantList(t, "above", list, ok)
	n, ok := impl.HeadOver(s, 1)
	wantNoNumber(t, "head", n, ok)
	yes, ok := impl.AreOpposite(s, 1, 1)
	wantTruth(t, "opposite", yes, ok, false)
	list, ok = impl.OppositeSteps(s, 1)
	wantList(t, "opposite", list, ok)
	wantFraction(t, "apart", tell(impl.ApartAround(s, 1, 1)), 0, 1)
	wantSides(t, s, "n")
	list, ok = impl.LampsAndWindows(s, 1, 1)
	wantList(t, "both", list, ok, 1)
	list, ok = impl.DarkSteps(s, 1, 0)
	wantList(t, "dark", list, ok)
	list, ok = impl.DarkSteps(s, 2, 400)
	wantList(t, "dark", list, ok, 1)
	n, ok = impl.FewestLamps(s, 0)
	wantNumber(t, "lamps", n, ok, 1)
	n, ok = impl.CountAngles(s, 400)
	wantNumber(t, "angles", n, ok, 3)
	list, ok = impl.TwinMeets(s, s)
	wantList(t, "meets", list, ok, 1)
	n, ok = impl.HeightSpiral(s, 1)
	wantNumber(t, "height", n, ok, 7)
	for _, step := range []int{-1, 0, 1, 2} {
		wantCut(t, s, step, "", "")
	}
}

func TestSpiralOfLessThanATurn(t *testing.T) {
	s := spiral(t, "7@12*18")
	wantFraction(t, "turns", tell(impl.TurnsOf(s)), 1, 2)
	wantFraction(t, "angle", tell(impl.AngleOf(s, 7)), 1, 2)
	for step := 1; step <= 7; step++ {
		list, ok := impl.StepsAbove(s, step)
		wantList(t, "above", list, ok)
		n, ok := impl.HeadOver(s, step)
		wantNoNumber(t, "head", n, ok)
	}
	list, ok := impl.OppositeSteps(s, 1)
	wantList(t, "opposite", list, ok, 7)
	list, ok = impl.OppositeSteps(s, 7)
	wantList(t, "opposite", list, ok, 1)
	list, ok = impl.OppositeSteps(s, 2)
	wantList(t, "opposite", list, ok)
	wantFraction(t, "apart", tell(impl.ApartAround(s, 7, 1)), 1, 2)
	wantSides(t, s, "nneeess")
	// The spiral that has no end goes all around.
	n, ok := impl.CountAngles(s, 5)
	wantNumber(t, "angles", n, ok, 12)
	// A whole turn more, and the step 1 has one above it.
	n, ok = impl.HeadOver(wound(12, 12, 18), 1)
	wantNoNumber(t, "head", n, ok)
	n, ok = impl.HeadOver(wound(13, 12, 18), 1)
	wantNumber(t, "head", n, ok, 216)
}

func TestRoundsThatAreEvenAndOdd(t *testing.T) {
	odd, even := wound(30, 13, 1), wound(30, 14, 1)
	for step := 1; step <= 30; step++ {
		list, ok := impl.OppositeSteps(odd, step)
		wantList(t, "opposite", list, ok)
	}
	list, ok := impl.OppositeSteps(even, 15)
	wantList(t, "opposite", list, ok, 8, 22)
	list, ok = impl.OppositeSteps(even, 30)
	wantList(t, "opposite", list, ok, 9, 23)
	yes, ok := impl.AreOpposite(odd, 1, 7)
	wantTruth(t, "opposite", yes, ok, false)
	yes, ok = impl.AreOpposite(odd, 1, 8)
	wantTruth(t, "opposite", yes, ok, false)
	yes, ok = impl.AreOpposite(even, 8, 1)
	wantTruth(t, "opposite", yes, ok, true)
	yes, ok = impl.AreOpposite(even, 22, 1)
	wantTruth(t, "opposite", yes, ok, true)
	yes, ok = impl.AreOpposite(even, 15, 1)
	wantTruth(t, "opposite", yes, ok, false)
	wantFraction(t, "apart", tell(impl.ApartAround(odd, 1, 7)), 6, 13)
	wantFraction(t, "apart", tell(impl.ApartAround(odd, 1, 8)), 6, 13)
	wantFraction(t, "apart", tell(impl.ApartAround(even, 30, 1)), 1, 14)
	wantFraction(t, "apart", tell(impl.ApartAround(even, 29, 1)), 0, 1)
}

func TestTwoEqualSteps(t *testing.T) {
	for _, s := range []impl.Spiral{wound(20, 12, 18), wound(20, 3, 18), wound(400, 60, 300), wound(5, 7, 1)} {
		for _, step := range []int{1, 2, s.Steps} {
			yes, ok := impl.AreOpposite(s, step, step)
			wantTruth(t, "opposite", yes, ok, false)
			wantFraction(t, "apart", tell(impl.ApartAround(s, step, step)), 0, 1)
		}
	}
}

func TestLampsThatShineOnNoOtherStep(t *testing.T) {
	s := spiral(t, "10@12*18")
	list, ok := impl.DarkSteps(s, 3, 0)
	wantList(t, "dark", list, ok, 1, 2, 4, 5, 7, 8, 10)
	list, ok = impl.DarkSteps(s, 1, 0)
	wantList(t, "dark", list, ok)
	n, ok := impl.FewestLamps(s, 0)
	wantNumber(t, "lamps", n, ok, 10)
}

// There is no lamp on the ground, and none above the last step.
func TestLampsAreOnStepsAlone(t *testing.T) {
	for _, c := range []struct {
		steps, lamp, shine int
		want               []int
	}{
		{9, 5, 1, []int{1, 2, 3, 7, 8, 9}}, {9, 5, 3, []int{1, 9}}, {9, 5, 4, nil}, {10, 5, 2, []int{1, 2}}, {10, 10, 8, []int{1}}, {10, 10, 9, nil}, {9, 10, 400, upTo(9)},
		{10, 11, 1, upTo(10)}, {11, 11, 1, upTo(9)},
	} {
		list, ok := impl.DarkSteps(wound(c.steps, 12, 18), c.lamp, c.shine)
		wantList(t, "dark", list, ok, c.want...)
	}
}

func TestLampAndWindowGreaterThanAllSteps(t *testing.T) {
	s := spiral(t, "20@12*18")
	for _, c := range []struct {
		lamp, window int
		want         []int
	}{
		{1, 1, upTo(20)}, {21, 1, nil}, {1, 21, nil}, {21, 21, nil}, {400, 400, nil}, {20, 1, []int{20}}, {1, 20, []int{20}}, {20, 20, []int{20}},
		{4, 6, []int{12}}, {6, 4, []int{12}}, {3, 7, nil}, {4, 5, []int{20}}, {2, 2, []int{2, 4, 6, 8, 10, 12, 14, 16, 18, 20}}, {10, 5, []int{10, 20}},
	} {
		list, ok := impl.LampsAndWindows(s, c.lamp, c.window)
		wantList(t, "both", list, ok, c.want...)
	}
	list, ok := impl.DarkSteps(s, 21, 400)
	wantList(t, "dark", list, ok, upTo(20)...)
	list, ok = impl.DarkSteps(s, 400, 0)
	wantList(t, "dark", list, ok, upTo(20)...)
}

func TestTwinsThatMeet(t *testing.T) {
	for _, c := range []struct {
		s, t string
		want []int
	}{
		{"20@12*18", "20@12*18", upTo(20)},
		{"20@12*18", "7@12*18", upTo(7)},
		{"7@12*18", "20@12*18", upTo(7)},
		{"40@12*9", "20@12*18", []int{24}},
		{"20@12*18", "23@12*9", nil},
		{"20@12*18", "24@12*9", []int{12}},
		// They are at the same angle again when the turns of both are whole.
		{"20@3*5", "20@4*5", []int{1, 13}},
		{"20@3*5", "20@6*5", []int{1, 7, 13, 19}},
		// Each step of the first one is as high as one of the other, but seldom at its angle.
		{"30@6*10", "30@6*5", []int{6, 12}},
		{"30@6*10", "59@12*5", nil},
		{"30@12*7", "30@12*14", []int{24}},
		{"60@3*300", "60@60*300", []int{1}},
	} {
		list, ok := impl.TwinMeets(spiral(t, c.s), spiral(t, c.t))
		wantList(t, c.s+" and "+c.t, list, ok, c.want...)
	}
}

func TestTwinsThatNeverMeet(t *testing.T) {
	for _, c := range [][2]string{
		// These are never as high as each other.
		{"3@12*7", "5@12*300"}, {"6@5*7", "6@5*11"},
		// These are, but at other angles, or farther up than one of them goes.
		{"11@12*18", "40@12*9"}, {"3@4*2", "400@4*1"}, {"119@60*1", "399@60*2"}, {"400@6*10", "400@12*5"},
	} {
		list, ok := impl.TwinMeets(spiral(t, c[0]), spiral(t, c[1]))
		wantList(t, c[0]+" and "+c[1], list, ok)
		list, ok = impl.TwinMeets(spiral(t, c[1]), spiral(t, c[0]))
		wantList(t, c[1]+" and "+c[0], list, ok)
	}
}
