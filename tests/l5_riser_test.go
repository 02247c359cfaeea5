package tests

import (
	"math"
	"slices"
	"strings"
	"testing"

	"loop.example/g01374/impl"
)

// flight returns the flight with a text that is known to tell one.
func flight(t *testing.T, text string) impl.Flight {
	t.Helper()
	f, ok := impl.ParseFlight(text)
	if !ok {
		t.Fatalf("ParseFlight(%q) fails", text)
	}
	return f
}

func risen(risers int, rise int, tread int) impl.Flight {
	return impl.Flight{Risers: risers, Rise: rise, Tread: tread}
}

// oddFlights returns values of which none is a flight.
func oddFlights() []impl.Flight {
	return []impl.Flight{
		{}, risen(0, 3, 4), risen(-1, 3, 4), risen(impl.MaxRisers+1, 3, 4), risen(math.MaxInt, 3, 4), risen(math.MinInt, 3, 4),
		risen(4, 0, 4), risen(4, -3, 4), risen(4, impl.MaxRise+1, 4), risen(4, math.MaxInt, 4), risen(4, math.MinInt, 4),
		risen(4, 3, 0), risen(4, 3, -4), risen(4, 3, impl.MaxTread+1), risen(4, 3, math.MaxInt), risen(4, 3, math.MinInt),
		// One riser has no tread in front of it, but it is told all the same.
		risen(1, 3, 0), risen(1, 3, impl.MaxTread+1),
		risen(-4, -3, -4), risen(math.MinInt, math.MinInt, math.MinInt), risen(math.MaxInt, math.MaxInt, math.MaxInt), risen(math.MinInt, math.MaxInt, math.MinInt),
	}
}

// wantFlight holds a flight against a text, and wants the call to fail if the text is empty.
func wantFlight(t *testing.T, what string, got impl.Flight, ok bool, want string) {
	t.Helper()
	if want == "" {
		if ok || got != (impl.Flight{}) {
			t.Errorf("%s: got %v, %v, want it to fail", what, got, ok)
		}
		return
	}
	text, fine := impl.FlightText(got)
	if !ok || !fine || text != want {
		t.Errorf("%s: got %v, %v, want %s", what, got, ok, want)
	}
}

// wantFlights holds flights against texts with blanks between them: there may be none.
func wantFlights(t *testing.T, what string, got []impl.Flight, ok bool, want string) {
	t.Helper()
	var texts []string
	for _, f := range got {
		text, _ := impl.FlightText(f)
		texts = append(texts, text)
	}
	if !ok || strings.Join(texts, " ") != want {
		t.Errorf("%s: got %v, %v, want %s", what, got, ok, want)
	}
}

func wantNoFlights(t *testing.T, what string, got []impl.Flight, ok bool) {
	t.Helper()
	if ok || len(got) != 0 {
		t.Errorf("%s: got %v, %v, want it to fail", what, got, ok)
	}
}

// wantSplit holds both flights against texts, and wants the call to fail if these are empty.
func wantSplit(t *testing.T, f impl.Flight, landing int, first string, second string) {
	t.Helper()
	lower, upper, ok := impl.SplitFlight(f, landing)
	wantFlight(t, "lower flight", lower, ok, first)
	wantFlight(t, "upper flight", upper, ok, second)
}

func TestIsFlight(t *testing.T) {
	if impl.MaxHigh != 6000 || impl.MaxRise != 250 || impl.MaxTread != 500 || impl.MaxRisers != 100 {
		t.Error("other limits than the document's")
	}
	for _, f := range []impl.Flight{
		risen(1, 1, 1), risen(100, 1, 1), risen(1, 250, 1), risen(1, 1, 500), risen(4, 3, 4),
		// The height of a flight may be greater than MaxHigh.
		risen(100, 250, 500),
	} {
		if !impl.IsFlight(f) {
			t.Errorf("%v is a flight", f)
		}
	}
	for _, f := range oddFlights() {
		if impl.IsFlight(f) {
			t.Errorf("%v is no flight", f)
		}
	}
}

func TestExampleOfMeasures(t *testing.T) {
	f := flight(t, "4r3t4")
	if f != risen(4, 3, 4) {
		t.Error("parsed", f)
	}
	n, ok := impl.HeightOf(f)
	wantNumber(t, "height", n, ok, 12)
	n, ok = impl.RunOf(f)
	wantNumber(t, "run", n, ok, 12)
	wantFraction(t, "slope", tell(impl.SlopeOf(f)), 3, 4)
	n, ok = impl.PaceSum(f)
	wantNumber(t, "pace sum", n, ok, 10)
	n, ok = impl.LineSquare(f)
	wantNumber(t, "line square", n, ok, 288)
	n, ok = impl.WholeLine(f)
	wantNoNumber(t, "whole line", n, ok)
	n, ok = impl.WholeLine(flight(t, "4r6t6"))
	wantNumber(t, "whole line", n, ok, 30)
	n, ok = impl.HeightAtRun(f, 3)
	wantNumber(t, "height at 3", n, ok, 3)
	n, ok = impl.HeightAtRun(f, 4)
	wantNumber(t, "height at 4", n, ok, 6)
	n, ok = impl.HeadRoom(f, 20, 4)
	wantNumber(t, "head room", n, ok, 14)
	wantSplit(t, f, 1, "1r3t4", "3r3t4")
	twice, ok := impl.TimesFlight(flight(t, "4r6t6"), 2)
	wantFlight(t, "twice", twice, ok, "4r12t12")
	text, ok := impl.FlightText(f)
	if !ok || text != "4r3t4" {
		t.Error("text", text, ok)
	}
}

func TestExampleOfRisers(t *testing.T) {
	list, ok := impl.WholeRisers(12, 2, 4)
	wantList(t, "whole risers", list, ok, 3, 4, 6)
	n, ok := impl.BestRisers(12, 10, 4)
	wantNumber(t, "best risers", n, ok, 4)
	list, ok = impl.EvenRisers(10, 4)
	wantList(t, "even risers", list, ok, 2, 3, 2, 3)
	n, ok = impl.FewestRisers(10, 3)
	wantNumber(t, "fewest risers", n, ok, 4)
	n, ok = impl.TreadFor(3, 10)
	wantNumber(t, "tread", n, ok, 4)
	flights, ok := impl.FlightsFor(12, 12, 10)
	wantFlights(t, "flights", flights, ok, "3r4t2 4r3t4")
	n, ok = impl.MostRisers(12, 4)
	wantNumber(t, "most risers", n, ok, 4)
}

// A stair as in a house, in millimetres.
func TestOrdinaryFlight(t *testing.T) {
	f := flight(t, "16r175t280")
	n, ok := impl.HeightOf(f)
	wantNumber(t, "height", n, ok, 2800)
	n, ok = impl.RunOf(f)
	wantNumber(t, "run", n, ok, 4200)
	wantFraction(t, "slope", tell(impl.SlopeOf(f)), 5, 8)
	n, ok = impl.PaceSum(f)
	wantNumber(t, "pace sum", n, ok, 630)
	n, ok = impl.LineSquare(f)
	wantNumber(t, "line square", n, ok, 25480000)
	n, ok = impl.WholeLine(f)
	wantNoNumber(t, "whole line", n, ok)
	list, ok := impl.WholeRisers(2800, 140, 200)
	wantList(t, "whole risers", list, ok, 14, 16, 20)
	n, ok = impl.BestRisers(2800, 630, 270)
	wantNumber(t, "best risers", n, ok, 16)
	list, ok = impl.EvenRisers(2800, 15)
	wantList(t, "even risers", list, ok, 186, 187, 187, 186, 187, 187, 186, 187, 187, 186, 187, 187, 186, 187, 187)
	n, ok = impl.FewestRisers(2800, 190)
	wantNumber(t, "fewest risers", n, ok, 15)
	n, ok = impl.TreadFor(175, 630)
	wantNumber(t, "tread", n, ok, 280)
	flights, ok := impl.FlightsFor(2800, 4200, 630)
	wantFlights(t, "flights", flights, ok, "14r200t230 16r175t280")
	n, ok = impl.MostRisers(4200, 290)
	wantNumber(t, "most risers", n, ok, 15)
	n, ok = impl.HeightAtRun(f, 1000)
	wantNumber(t, "height", n, ok, 700)
	n, ok = impl.HeadRoom(f, 2500, 1000)
	wantNumber(t, "head room", n, ok, 1800)
	wantSplit(t, f, 10, "10r175t280", "6r175t280")
}

func TestHeightsRiseAtRisersAlone(t *testing.T) {
	f := flight(t, "4r3t4")
	for _, c := range [][2]int{
		{-1000, 0}, {-999, 0}, {-4, 0}, {-1, 0}, {0, 3}, {1, 3}, {3, 3}, {4, 6}, {7, 6}, {8, 9}, {11, 9}, {12, 12}, {13, 12}, {16, 12}, {1011, 12}, {1012, 12},
	} {
		n, ok := impl.HeightAtRun(f, c[0])
		wantNumber(t, "height", n, ok, c[1])
		n, ok = impl.HeadRoom(f, 20, c[0])
		wantNumber(t, "head room", n, ok, 20-c[1])
	}
	for _, place := range []int{math.MinInt, -1001, 1013, math.MaxInt} {
		n, ok := impl.HeightAtRun(f, place)
		wantNoNumber(t, "height", n, ok)
		n, ok = impl.HeadRoom(f, 20, place)
		wantNoNumber(t, "head room", n, ok)
	}
}

// A ceiling as high as the stair leaves no room, and the stair may go up beyond it elsewhere.
func TestRoomUpToTheCeiling(t *testing.T) {
	f := flight(t, "4r3t4")
	for _, c := range [][3]int{
		{1, -1, 1}, {3, -1000, 3}, {4, 0, 1}, {6, 3, 3}, {7, 7, 1}, {12, 11, 3}, {13, 12, 1}, {13, 1012, 1}, {20000, 12, 19988}, {20000, -1, 20000},
	} {
		n, ok := impl.HeadRoom(f, c[0], c[1])
		wantNumber(t, "head room", n, ok, c[2])
	}
	for _, c := range [][2]int{{1, 0}, {3, 0}, {2, 3}, {6, 4}, {5, 7}, {12, 12}, {12, 1012}, {9, 13}, {1, 12}} {
		n, ok := impl.HeadRoom(f, c[0], c[1])
		wantNoNumber(t, "head room", n, ok)
	}
}

func TestFlightOfOneRiser(t *testing.T) {
	f := flight(t, "1r7t3")
	n, ok := impl.HeightOf(f)
	wantNumber(t, "height", n, ok, 7)
	n, ok = impl.RunOf(f)
	wantNumber(t, "run", n, ok, 0)
	wantFraction(t, "slope", tell(impl.SlopeOf(f)), 7, 3)
	n, ok = impl.PaceSum(f)
	wantNumber(t, "pace sum", n, ok, 17)
	n, ok = impl.LineSquare(f)
	wantNumber(t, "line square", n, ok, 49)
	n, ok = impl.WholeLine(f)
	wantNumber(t, "whole line", n, ok, 7)
	for _, c := range [][2]int{{-1000, 0}, {-1, 0}, {0, 7}, {1, 7}, {1000, 7}} {
		n, ok = impl.HeightAtRun(f, c[0])
		wantNumber(t, "height", n, ok, c[1])
	}
	for _, place := range []int{-1001, 1001} {
		n, ok = impl.HeightAtRun(f, place)
		wantNoNumber(t, "height", n, ok)
	}
	for _, landing := range []int{-1, 0, 1, 2} {
		wantSplit(t, f, landing, "", "")
	}
	thrice, ok := impl.TimesFlight(f, 3)
	wantFlight(t, "thrice", thrice, ok, "1r21t9")
}

func TestLinesThatAreWhole(t *testing.T) {
	for text, want := range map[string]int{
		"1r1t500": 1, "1r250t1": 250, "4r6t6": 30, "2r2t3": 5, "3r5t4": 17, "100r33t25": 4125, "100r231t175": 28875, "2r6t5": 13, "4r125t375": 0,
		"2r1t1": 0, "2r2t2": 0, "4r3t4": 0, "100r250t500": 0, "2r2t4": 0, "100r33t26": 0, "100r32t25": 0,
	} {
		n, ok := impl.WholeLine(flight(t, text))
		if want == 0 {
			wantNoNumber(t, text, n, ok)
		} else {
			wantNumber(t, text, n, ok, want)
		}
	}
}

func TestNumbersOfRisersThatAreEquallyGood(t *testing.T) {
	// With a tread of 10 the pace sums of 1, 2, 4 and 8 risers are 26, 18, 14 and 12.
	for sum, want := range map[int]int{2000: 1, 23: 1, 22: 1, 21: 2, 18: 2, 17: 2, 16: 2, 15: 4, 14: 4, 13: 4, 12: 8, 10: 8, 1: 8} {
		n, ok := impl.BestRisers(8, sum, 10)
		wantNumber(t, "best risers", n, ok, want)
	}
	// And those of 1, 3 and 9 risers with a tread of 2 are 20, 8 and 4.
	for sum, want := range map[int]int{15: 1, 14: 1, 13: 3, 7: 3, 6: 3, 5: 9} {
		n, ok := impl.BestRisers(9, sum, 2)
		wantNumber(t, "best risers", n, ok, want)
	}
}

func TestHeightsThatNoNumberOfRisersParts(t *testing.T) {
	// These are primes, or have a prime in them that is too great for a rise and for a number of risers.
	for _, high := range []int{251, 257, 502, 5987, 5999} {
		n, ok := impl.BestRisers(high, 630, 280)
		wantNoNumber(t, "best risers", n, ok)
		list, ok := impl.WholeRisers(high, 1, 250)
		wantList(t, "whole risers", list, ok)
		flights, ok := impl.FlightsFor(high, 50000, 630)
		wantFlights(t, "flights", flights, ok, "")
	}
	// This is 59 times 101: there may be no 101 risers.
	n, ok := impl.BestRisers(5959, 1, 1)
	wantNumber(t, "best risers", n, ok, 59)
	list, ok := impl.WholeRisers(5959, 1, 250)
	wantList(t, "whole risers", list, ok, 59)
}

// Where nothing is as told, the list of all that is so is empty, and the call succeeds.
func TestListsThatAreEmpty(t *testing.T) {
	for _, c := range [][3]int{{12, 5, 5}, {12, 4, 2}, {12, 13, 250}, {1, 2, 250}, {6000, 1, 59}} {
		list, ok := impl.WholeRisers(c[0], c[1], c[2])
		wantList(t, "whole risers", list, ok)
	}
	for _, c := range [][3]int{{12, 1, 10}, {12, 12, 2}, {12, 12, 1}, {12, 12, 2000}, {100, 0, 200}} {
		flights, ok := impl.FlightsFor(c[0], c[1], c[2])
		wantFlights(t, "flights", flights, ok, "")
	}
}

func TestEvenRisesAreRoundedDown(t *testing.T) {
	for _, c := range []struct {
		high, risers int
		want         []int
	}{
		{1, 1, []int{1}}, {2, 1, []int{2}}, {3, 2, []int{1, 2}}, {3, 3, []int{1, 1, 1}}, {5, 3, []int{1, 2, 2}}, {7, 4, []int{1, 2, 2, 2}}, {9, 4, []int{2, 2, 2, 3}},
		{11, 4, []int{2, 3, 3, 3}}, {12, 4, []int{3, 3, 3, 3}}, {13, 5, []int{2, 3, 2, 3, 3}}, {251, 1, []int{251}}, {6000, 1, []int{6000}}, {5999, 2, []int{2999, 3000}},
		{6000, 100, slices.Repeat([]int{60}, 100)}, {100, 100, slices.Repeat([]int{1}, 100)}, {150, 100, slices.Repeat([]int{1, 2}, 50)},
	} {
		list, ok := impl.EvenRisers(c.high, c.risers)
		wantList(t, "even risers", list, ok, c.want...)
	}
	for _, c := range [][2]int{{1, 2}, {3, 4}, {99, 100}, {1, 100}} {
		list, ok := impl.EvenRisers(c[0], c[1])
		wantNoList(t, "even risers", list, ok)
	}
}
