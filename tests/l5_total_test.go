package tests

import (
	"math"
	"testing"

	"loop.example/g01374/impl"
)

// flightCalls returns the functions of chapter 5 that a flight is given to.
func flightCalls() []named {
	return []named{
		{"IsFlight", impl.IsFlight},
		{"HeightOf", impl.HeightOf},
		{"RunOf", impl.RunOf},
		{"SlopeOf", impl.SlopeOf},
		{"PaceSum", impl.PaceSum},
		{"LineSquare", impl.LineSquare},
		{"WholeLine", impl.WholeLine},
		{"HeightAtRun", impl.HeightAtRun},
		{"HeadRoom", impl.HeadRoom},
		{"SplitFlight", impl.SplitFlight},
		{"TimesFlight", impl.TimesFlight},
		{"FlightText", impl.FlightText},
	}
}

// riserCalls returns those that only numbers are given to.
func riserCalls() []named {
	return []named{
		{"WholeRisers", impl.WholeRisers},
		{"BestRisers", impl.BestRisers},
		{"EvenRisers", impl.EvenRisers},
		{"FewestRisers", impl.FewestRisers},
		{"TreadFor", impl.TreadFor},
		{"FlightsFor", impl.FlightsFor},
		{"MostRisers", impl.MostRisers},
	}
}

// flightNumbers returns places, ceilings, landings and how many times, at the limits of each and beyond them.
func flightNumbers() []int {
	return []int{
		math.MinInt, math.MinInt + 1, -1001, -1000, -1, 0, 1, 2, 3, 4, 12, 99, 100, 500, 501, 1012, 1013, 20000, 20001, 50500, 50501, math.MaxInt - 1, math.MaxInt,
	}
}

// riserNumbers returns heights, risers, rises, treads, runs and sums in the same way.
func riserNumbers() []int {
	return []int{math.MinInt, -1, 0, 1, 2, 4, 12, 100, 101, 250, 251, 500, 501, 2000, 2001, 6000, 6001, 50000, 50001, math.MaxInt}
}

func TestNothingWorksWithoutFlight(t *testing.T) {
	wantAllFail(t, flightCalls(), oddFlights(), flightNumbers())
	wantAllFail(t, []named{{"ParseFlight", impl.ParseFlight}}, oddFlightTexts())
}

func TestFlightCallsAreTotal(t *testing.T) {
	all := append(oddFlights(), risen(1, 1, 1), risen(4, 3, 4), risen(4, 6, 6), risen(100, 1, 500), risen(100, 250, 1), risen(100, 250, 500))
	holdTotal(t, flightCalls(), all, flightNumbers())
	holdTotal(t, riserCalls(), riserNumbers())
	holdTotal(t, []named{{"ParseFlight", impl.ParseFlight}}, append(oddFlightTexts(), "1r1t1", "4r3t4", "100r250t500"))
}
