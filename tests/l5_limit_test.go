package tests

import (
	"math"
	"strings"
	"testing"

	"loop.example/g01374/impl"
)

func TestMeasuresAtTheLimits(t *testing.T) {
	for text, want := range map[string][4]int{
		"1r1t1":       {1, 0, 3, 1},
		"1r250t500":   {250, 0, 1000, 62500},
		"100r1t1":     {100, 99, 3, 19801},
		"100r250t1":   {25000, 99, 501, 625009801},
		"100r1t500":   {100, 49500, 502, 2450260000},
		"100r250t500": {25000, 49500, 1000, 3075250000},
	} {
		f := flight(t, text)
		n, ok := impl.HeightOf(f)
		wantNumber(t, "height of "+text, n, ok, want[0])
		n, ok = impl.RunOf(f)
		wantNumber(t, "run of "+text, n, ok, want[1])
		n, ok = impl.PaceSum(f)
		wantNumber(t, "pace sum of "+text, n, ok, want[2])
		n, ok = impl.LineSquare(f)
		wantNumber(t, "line square of "+text, n, ok, want[3])
	}
	wantFraction(t, "slope", tell(impl.SlopeOf(flight(t, "1r1t1"))), 1, 1)
	wantFraction(t, "slope", tell(impl.SlopeOf(flight(t, "9r250t500"))), 1, 2)
	wantFraction(t, "slope", tell(impl.SlopeOf(flight(t, "9r250t1"))), 250, 1)
	wantFraction(t, "slope", tell(impl.SlopeOf(flight(t, "9r1t500"))), 1, 500)
}

func TestPlacesAtTheLimits(t *testing.T) {
	f := flight(t, "100r250t500")
	for _, c := range [][2]int{
		{-1000, 0}, {-1, 0}, {0, 250}, {499, 250}, {500, 500}, {49499, 24750}, {49500, 25000}, {49501, 25000}, {50000, 25000}, {50500, 25000},
	} {
		n, ok := impl.HeightAtRun(f, c[0])
		wantNumber(t, "height", n, ok, c[1])
	}
	for _, place := range []int{math.MinInt, math.MinInt + 1, -1001, 50501, math.MaxInt - 1, math.MaxInt} {
		n, ok := impl.HeightAtRun(f, place)
		wantNoNumber(t, "height", n, ok)
		n, ok = impl.HeadRoom(f, 20000, place)
		wantNoNumber(t, "head room", n, ok)
	}
	n, ok := impl.HeadRoom(f, 20000, 39499)
	wantNumber(t, "head room", n, ok, 250)
	n, ok = impl.HeadRoom(f, 20000, 39500)
	wantNoNumber(t, "head room", n, ok)
	n, ok = impl.HeadRoom(f, 20000, 49500)
	wantNoNumber(t, "head room", n, ok)
	n, ok = impl.HeadRoom(f, 1, -1)
	wantNumber(t, "head room", n, ok, 1)
	for _, ceiling := range []int{math.MinInt, math.MinInt + 1, -1, 0, 20001, math.MaxInt} {
		for _, place := range []int{-1000, -1, 0, 500} {
			n, ok = impl.HeadRoom(f, ceiling, place)
			wantNoNumber(t, "head room", n, ok)
		}
	}
}

func TestWholeRisersAtTheLimits(t *testing.T) {
	list, ok := impl.WholeRisers(1, 1, 1)
	wantList(t, "whole risers", list, ok, 1)
	list, ok = impl.WholeRisers(6000, 1, 250)
	wantList(t, "whole risers", list, ok, 24, 25, 30, 40, 48, 50, 60, 75, 80, 100)
	list, ok = impl.WholeRisers(6000, 250, 250)
	wantList(t, "whole risers", list, ok, 24)
	list, ok = impl.WholeRisers(6000, 60, 240)
	wantList(t, "whole risers", list, ok, 25, 30, 40, 48, 50, 60, 75, 80, 100)
	list, ok = impl.WholeRisers(6000, 61, 239)
	wantList(t, "whole risers", list, ok, 30, 40, 48, 50, 60, 75, 80)
	list, ok = impl.WholeRisers(100, 1, 250)
	wantList(t, "whole risers", list, ok, 1, 2, 4, 5, 10, 20, 25, 50, 100)
	for _, high := range beyond(1, impl.MaxHigh) {
		list, ok = impl.WholeRisers(high, 1, 250)
		wantNoList(t, "whole risers", list, ok)
	}
	for _, rise := range beyond(1, impl.MaxRise) {
		list, ok = impl.WholeRisers(12, rise, 250)
		wantNoList(t, "whole risers", list, ok)
		list, ok = impl.WholeRisers(12, 1, rise)
		wantNoList(t, "whole risers", list, ok)
	}
}

// beyond returns numbers that are not from least up to most.
func beyond(least int, most int) []int {
	return []int{math.MinInt, math.MinInt + 1, -12, least - 1, most + 1, math.MaxInt - 1, math.MaxInt}
}

func TestBestRisersAtTheLimits(t *testing.T) {
	for _, c := range [][4]int{
		{1, 1, 1, 1}, {1, 2000, 500, 1}, {6000, 2000, 500, 24}, {6000, 1, 1, 100}, {6000, 1, 500, 100}, {6000, 2000, 1, 24}, {6000, 501, 1, 24}, {6000, 980, 500, 25},
	} {
		n, ok := impl.BestRisers(c[0], c[1], c[2])
		wantNumber(t, "best risers", n, ok, c[3])
	}
	for _, high := range beyond(1, impl.MaxHigh) {
		n, ok := impl.BestRisers(high, 10, 4)
		wantNoNumber(t, "best risers", n, ok)
	}
	for _, sum := range beyond(1, 2000) {
		n, ok := impl.BestRisers(12, sum, 4)
		wantNoNumber(t, "best risers", n, ok)
	}
	for _, tread := range beyond(1, impl.MaxTread) {
		n, ok := impl.BestRisers(12, 10, tread)
		wantNoNumber(t, "best risers", n, ok)
	}
}

func TestEvenAndFewestRisersAtTheLimits(t *testing.T) {
	list, ok := impl.EvenRisers(5999, 100)
	if !ok || len(list) != 100 || list[0] != 59 || list[1] != 60 || list[99] != 60 {
		t.Error("even risers", list, ok)
	}
	// However many: there may be more than MaxRisers.
	for _, c := range [][3]int{{1, 1, 1}, {1, 250, 1}, {250, 250, 1}, {251, 250, 2}, {6000, 250, 24}, {6000, 249, 25}, {6000, 1, 6000}, {6000, 2, 3000}, {101, 1, 101}} {
		n, ok := impl.FewestRisers(c[0], c[1])
		wantNumber(t, "fewest risers", n, ok, c[2])
	}
	for _, high := range beyond(1, impl.MaxHigh) {
		list, ok = impl.EvenRisers(high, 1)
		wantNoList(t, "even risers", list, ok)
		n, ok := impl.FewestRisers(high, 3)
		wantNoNumber(t, "fewest risers", n, ok)
	}
	for _, risers := range beyond(1, impl.MaxRisers) {
		list, ok = impl.EvenRisers(6000, risers)
		wantNoList(t, "even risers", list, ok)
	}
	for _, most := range beyond(1, impl.MaxRise) {
		n, ok := impl.FewestRisers(10, most)
		wantNoNumber(t, "fewest risers", n, ok)
	}
}

func TestTreadsAtTheLimits(t *testing.T) {
	for _, c := range [][3]int{{1, 3, 1}, {1, 502, 500}, {250, 501, 1}, {250, 1000, 500}, {3, 10, 4}} {
		n, ok := impl.TreadFor(c[0], c[1])
		wantNumber(t, "tread", n, ok, c[2])
	}
	for _, c := range [][2]int{{1, 1}, {1, 2}, {1, 503}, {1, 2000}, {250, 1}, {250, 500}, {250, 1001}, {250, 2000}, {3, 6}} {
		n, ok := impl.TreadFor(c[0], c[1])
		wantNoNumber(t, "tread", n, ok)
	}
	for _, rise := range beyond(1, impl.MaxRise) {
		n, ok := impl.TreadFor(rise, 510)
		wantNoNumber(t, "tread", n, ok)
	}
	for _, sum := range beyond(1, 2000) {
		n, ok := impl.TreadFor(3, sum)
		wantNoNumber(t, "tread", n, ok)
	}
	// By these the tread would be a good one if the numbers went around.
	n, ok := impl.TreadFor(math.MinInt, 4)
	wantNoNumber(t, "tread", n, ok)
	n, ok = impl.TreadFor(0, 4)
	wantNoNumber(t, "tread", n, ok)
	n, ok = impl.TreadFor(-1, 4)
	wantNoNumber(t, "tread", n, ok)
}

func TestFlightsForTheLimits(t *testing.T) {
	for _, c := range []struct {
		high, run, sum int
		want           string
	}{
		{1, 0, 3, "1r1t1"}, {1, 0, 502, "1r1t500"}, {1, 0, 503, ""}, {1, 50000, 2, ""}, {100, 0, 300, "1r100t100"}, {100, 200, 300, "1r100t100 2r50t200"},
		{6000, 50000, 1000, "24r250t500"}, {6000, 11500, 1000, "24r250t500"}, {6000, 11499, 1000, ""}, {6000, 0, 620, ""},
		{6000, 50000, 620, "24r250t120 25r240t140 30r200t220 40r150t320 48r125t370 50r120t380 60r100t420 75r80t460 80r75t470 100r60t500"},
		{6000, 49499, 620, "24r250t120 25r240t140 30r200t220 40r150t320 48r125t370 50r120t380 60r100t420 75r80t460 80r75t470"},
		{6000, 50000, 1, ""}, {6000, 50000, 2000, ""}, {6000, 50000, 1001, ""}, {1, 0, 1, ""}, {1, 0, 2000, ""},
	} {
		flights, ok := impl.FlightsFor(c.high, c.run, c.sum)
		wantFlights(t, "flights", flights, ok, c.want)
	}
	for _, high := range beyond(1, impl.MaxHigh) {
		flights, ok := impl.FlightsFor(high, 12, 10)
		wantNoFlights(t, "flights", flights, ok)
	}
	for _, run := range beyond(0, 50000) {
		flights, ok := impl.FlightsFor(12, run, 10)
		wantNoFlights(t, "flights", flights, ok)
	}
	for _, sum := range beyond(1, 2000) {
		flights, ok := impl.FlightsFor(12, 12, sum)
		wantNoFlights(t, "flights", flights, ok)
	}
}

func TestMostRisersAtTheLimits(t *testing.T) {
	for _, c := range [][3]int{
		{0, 1, 1}, {0, 500, 1}, {1, 1, 2}, {98, 1, 99}, {99, 1, 100}, {100, 1, 100}, {50000, 1, 100}, {499, 500, 1}, {500, 500, 2}, {49499, 500, 99}, {49500, 500, 100},
		{50000, 500, 100}, {11, 4, 3}, {12, 4, 4}, {15, 4, 4},
	} {
		n, ok := impl.MostRisers(c[0], c[1])
		wantNumber(t, "most risers", n, ok, c[2])
	}
	for _, run := range beyond(0, 50000) {
		n, ok := impl.MostRisers(run, 4)
		wantNoNumber(t, "most risers", n, ok)
	}
	for _, tread := range beyond(1, impl.MaxTread) {
		n, ok := impl.MostRisers(12, tread)
		wantNoNumber(t, "most risers", n, ok)
	}
}

func TestSplitsAndTimesAtTheLimits(t *testing.T) {
	f := flight(t, "100r250t500")
	wantSplit(t, f, 1, "1r250t500", "99r250t500")
	wantSplit(t, f, 99, "99r250t500", "1r250t500")
	wantSplit(t, flight(t, "2r1t1"), 1, "1r1t1", "1r1t1")
	for _, landing := range beyond(1, 99) {
		wantSplit(t, f, landing, "", "")
	}
	for _, c := range []struct {
		text string
		by   int
		want string
	}{
		{"4r3t4", 1, "4r3t4"}, {"4r3t4", 83, "4r249t332"}, {"4r3t4", 84, ""}, {"1r1t1", 250, "1r250t250"}, {"1r1t1", 251, ""}, {"1r1t1", 500, ""}, {"1r1t1", 501, ""},
		{"100r2t4", 125, "100r250t500"}, {"100r2t5", 125, ""}, {"100r3t4", 125, ""}, {"1r1t500", 1, "1r1t500"}, {"1r1t500", 2, ""}, {"1r250t1", 1, "1r250t1"}, {"1r250t1", 2, ""},
		{"100r250t500", 1, "100r250t500"}, {"9r1t2", 250, "9r250t500"},
	} {
		got, ok := impl.TimesFlight(flight(t, c.text), c.by)
		wantFlight(t, c.text, got, ok, c.want)
	}
	// By the last two all would become 2 or 1 if the numbers went around.
	for _, by := range append(beyond(1, impl.MaxTread), 6148914691236517206, -6148914691236517205) {
		got, ok := impl.TimesFlight(flight(t, "1r3t3"), by)
		wantFlight(t, "times", got, ok, "")
	}
}

func TestTextsOfFlights(t *testing.T) {
	for text, want := range map[string]impl.Flight{
		"1r1t1": risen(1, 1, 1), "4r3t4": risen(4, 3, 4), "100r250t500": risen(100, 250, 500), "10r10t10": risen(10, 10, 10), "16r175t280": risen(16, 175, 280),
	} {
		f, ok := impl.ParseFlight(text)
		if !ok || f != want {
			t.Errorf("%s: got %v, %v", text, f, ok)
		}
		again, ok := impl.FlightText(want)
		if !ok || again != text {
			t.Errorf("%v: got %q, %v, want %q", want, again, ok, text)
		}
	}
	for _, f := range oddFlights() {
		if text, ok := impl.FlightText(f); ok || text != "" {
			t.Errorf("%v has the text %q, %v", f, text, ok)
		}
	}
	for _, text := range oddFlightTexts() {
		f, ok := impl.ParseFlight(text)
		wantFlight(t, text, f, ok, "")
	}
}

// oddFlightTexts returns texts of which none tells a flight.
func oddFlightTexts() []string {
	return []string{
		"", "r", "t", "rt", "4", "4r", "4r3", "4r3t", "4rt4", "r3t4", "4t3r4", "4t3t4", "4r3r4", "4r3t4r", "4r3t4t", "4r3t4t5", "4r3t4r5", "r4r3t4", "t4r3t4", "4rr3t4", "4r3tt4",
		"04r3t4", "4r03t4", "4r3t04", "+4r3t4", "4r+3t4", "4r3t+4", "-4r3t4", "4r-3t4", "4r3t-4", "4r3t-0", " 4r3t4", "4r3t4 ", "4 r3t4", "4r 3t4", "4r3 t4", "4r3t4\n",
		"4R3t4", "4r3T4", "4,3,4", "1_0r3t4", "4r1_0t4", "4r3t1_0", "0x4r3t4", "4r3e1t4", "4r3.0t4", "xr3t4", "4rxt4", "4r3tx", "4r3t4x", "0r3t4", "4r0t4", "4r3t0",
		"101r3t4", "4r251t4", "4r3t501", "18446744073709551620r3t4", "4r18446744073709551619t4", "4r3t18446744073709551620", "99999999999999999999r3t4",
		"٤r3t4", "4r3t4\x00", "\xff", strings.Repeat("1t", 100000) + "1", strings.Repeat("1", 100000) + "r3t4", "4r3t" + strings.Repeat("0", 100000),
		strings.Repeat("r", 100000), strings.Repeat("t", 100000), "4r" + strings.Repeat("3t", 100000) + "4",
	}
}
