package tests

import (
	"math/big"
	"testing"

	"loop.example/g01374/impl"
)

// How far before a flight and behind it one may ask for a place.
const outside = 1000

// A profile tells how high a flight is at each place, the first one being the one that lies farthest outside.
type profile []int

// profileOf raises a flight riser by riser: all that lies behind one is higher by it.
func profileOf(f impl.Flight) profile {
	run := 0
	for range f.Risers - 1 {
		run += f.Tread
	}
	p := make(profile, outside+run+1+outside)
	for riser := range f.Risers {
		for i := outside + riser*f.Tread; i < len(p); i++ {
			p[i] += f.Rise
		}
	}
	return p
}

// run returns the place of the last riser, if there are as many places behind the flight as before it.
func (p profile) run() int { return len(p) - 1 - 2*outside }

func (p profile) height() int { return p[len(p)-1] }

// eachFlight calls use with small flights and with such as are at the limits.
func eachFlight(t *testing.T, use func(f impl.Flight)) {
	t.Helper()
	for _, risers := range []int{1, 2, 3, 4, 5, 13, impl.MaxRisers} {
		for _, rise := range []int{1, 2, 3, 4, 5, 12, 125, 249, impl.MaxRise} {
			for _, tread := range []int{1, 2, 3, 4, 12, 250, 499, impl.MaxTread} {
				use(risen(risers, rise, tread))
				if t.Failed() {
					t.Fatalf("flight %d, %d, %d", risers, rise, tread)
				}
			}
		}
	}
}

// The first half of promise 5: flights have the told heights and runs.
func TestAgainstProfilesOfFlights(t *testing.T) {
	eachFlight(t, func(f impl.Flight) {
		p := profileOf(f)
		height, ok := impl.HeightOf(f)
		wantNumber(t, "height", height, ok, p.height())
		run, ok := impl.RunOf(f)
		wantNumber(t, "run", run, ok, p.run())
		slope := ratio(t, "slope", tell(impl.SlopeOf(f)))
		wantSame(t, "slope", times(f.Tread, slope), number(f.Rise))
		sum, ok := impl.PaceSum(f)
		wantNumber(t, "pace sum", sum, ok, f.Rise+f.Rise+f.Tread)
		holdLine(t, f, p)
		holdSplits(t, f, p)
		for _, by := range []int{1, 2, 3, 20, 50, 125, 166, 250, 251, impl.MaxTread} {
			holdTimes(t, f, by)
		}
		text, ok := impl.FlightText(f)
		if again, fine := impl.ParseFlight(text); !ok || !fine || again != f {
			t.Errorf("parsed: got %v from %q, want %v", again, text, f)
		}
	})
}

func holdLine(t *testing.T, f impl.Flight, p profile) {
	t.Helper()
	height, run := big.NewInt(int64(p.height())), big.NewInt(int64(p.run()))
	square := new(big.Int).Add(height.Mul(height, height), run.Mul(run, run))
	n, ok := impl.LineSquare(f)
	wantNumber(t, "line square", n, ok, int(square.Int64()))
	root := new(big.Int).Sqrt(square)
	n, ok = impl.WholeLine(f)
	if new(big.Int).Mul(root, root).Cmp(square) == 0 {
		wantNumber(t, "whole line", n, ok, int(root.Int64()))
	} else {
		wantNoNumber(t, "whole line", n, ok)
	}
}

// holdSplits holds that both flights are together as high as the whole one, and as long with the tread between them.
func holdSplits(t *testing.T, f impl.Flight, p profile) {
	t.Helper()
	for landing := 1; landing < f.Risers; landing++ {
		lower, upper, ok := impl.SplitFlight(f, landing)
		if !ok || lower.Risers != landing || lower.Rise != f.Rise || upper.Rise != f.Rise || lower.Tread != f.Tread || upper.Tread != f.Tread {
			t.Fatalf("split behind %d: got %v and %v, %v", landing, lower, upper, ok)
		}
		a, b := profileOf(risen(lower.Risers, f.Rise, 1)), profileOf(risen(upper.Risers, f.Rise, 1))
		if a.height()+b.height() != p.height() || (a.run()+1+b.run())*f.Tread != p.run() {
			t.Fatalf("split behind %d: got %v and %v", landing, lower, upper)
		}
	}
	for _, landing := range []int{-1, 0, f.Risers, f.Risers + 1} {
		wantSplit(t, f, landing, "", "")
	}
}

func holdTimes(t *testing.T, f impl.Flight, by int) {
	t.Helper()
	want := risen(f.Risers, 0, 0)
	for range by {
		want.Rise += f.Rise
		want.Tread += f.Tread
	}
	got, ok := impl.TimesFlight(f, by)
	if want.Rise > impl.MaxRise || want.Tread > impl.MaxTread {
		wantFlight(t, "times", got, ok, "")
	} else if !ok || got != want {
		t.Errorf("times %d: got %v, %v, want %v", by, got, ok, want)
	}
}

// The second half of promise 5: heights rise at risers alone.
func TestHeightsAgainstProfiles(t *testing.T) {
	eachFlight(t, func(f impl.Flight) {
		if f.Rise > 12 && f.Rise < impl.MaxRise {
			return
		}
		p := profileOf(f)
		for i, height := range p {
			n, ok := impl.HeightAtRun(f, i-outside)
			if !ok || n != height {
				t.Fatalf("height at %d: got %d, %v, want %d", i-outside, n, ok, height)
			}
			if i%7 == 0 || i > 0 && height > p[i-1] {
				holdRoom(t, f, i-outside, height)
			}
		}
		for _, place := range []int{-outside - 1, len(p) - outside} {
			n, ok := impl.HeightAtRun(f, place)
			wantNoNumber(t, "height", n, ok)
			n, ok = impl.HeadRoom(f, 20000, place)
			wantNoNumber(t, "head room", n, ok)
		}
	})
}

// holdRoom holds the room up to ceilings below, at and above the height at a place.
func holdRoom(t *testing.T, f impl.Flight, place int, height int) {
	t.Helper()
	for _, ceiling := range []int{1, height - 1, height, height + 1, height + 2, height + 77, 20000, 20001} {
		n, ok := impl.HeadRoom(f, ceiling, place)
		if ceiling < 1 || ceiling > 20000 || ceiling <= height {
			wantNoNumber(t, "head room", n, ok)
		} else {
			wantNumber(t, "head room", n, ok, ceiling-height)
		}
	}
}

// eachHeight calls use with heights and with all pairs of a number of risers and a rise that make up each, by numbers of risers.
func eachHeight(t *testing.T, use func(high int, pairs [][2]int)) {
	t.Helper()
	pairs := make([][][2]int, impl.MaxHigh+1)
	for risers := 1; risers <= impl.MaxRisers; risers++ {
		for rise := 1; rise <= impl.MaxRise; rise++ {
			if high := risers * rise; high <= impl.MaxHigh {
				pairs[high] = append(pairs[high], [2]int{risers, rise})
			}
		}
	}
	for high := 1; high <= impl.MaxHigh; high++ {
		// Of the greater heights each one of so many is enough.
		if high <= 300 || high%59 == 0 || high%240 == 0 || high == impl.MaxHigh-1 {
			use(high, pairs[high])
		}
		if t.Failed() {
			t.Fatalf("height %d", high)
		}
	}
}

func TestAgainstAllNumbersOfRisers(t *testing.T) {
	eachHeight(t, func(high int, pairs [][2]int) {
		for _, low := range []int{1, 2, 3, 10, 60, 240, impl.MaxRise} {
			for _, most := range []int{1, 2, 9, 60, 239, impl.MaxRise} {
				var want []int
				for _, p := range pairs {
					if low <= p[1] && p[1] <= most {
						want = append(want, p[0])
					}
				}
				list, ok := impl.WholeRisers(high, low, most)
				wantList(t, "whole risers", list, ok, want...)
			}
		}
		for _, tread := range []int{1, 7, 280, impl.MaxTread} {
			for _, sum := range []int{1, 2, 9, 10, 11, 12, 25, 26, 400, 630, 631, 632, 633, 1000, 2000} {
				holdBest(t, high, pairs, sum, tread)
			}
		}
	})
}

func holdBest(t *testing.T, high int, pairs [][2]int, sum int, tread int) {
	t.Helper()
	best, least := 0, 0
	for _, p := range pairs {
		away := p[1] + p[1] + tread - sum
		if away < 0 {
			away = -away
		}
		if best == 0 || away < least {
			best, least = p[0], away
		}
	}
	n, ok := impl.BestRisers(high, sum, tread)
	if best == 0 {
		wantNoNumber(t, "best risers", n, ok)
	} else {
		wantNumber(t, "best risers", n, ok, best)
	}
}

func TestAgainstAllFlights(t *testing.T) {
	eachHeight(t, func(high int, pairs [][2]int) {
		for _, sum := range []int{1, 3, 10, 37, 502, 630, 1000, 1001, 2000} {
			for _, run := range []int{0, 1, 12, 99, 4200, 49500, 50000} {
				holdFlights(t, high, pairs, run, sum)
			}
		}
	})
}

func holdFlights(t *testing.T, high int, pairs [][2]int, run int, sum int) {
	t.Helper()
	var want []impl.Flight
	for _, p := range pairs {
		for tread := 1; tread <= impl.MaxTread; tread++ {
			if p[1]+p[1]+tread == sum && (p[0]-1)*tread <= run {
				want = append(want, risen(p[0], p[1], tread))
			}
		}
	}
	got, ok := impl.FlightsFor(high, run, sum)
	if !ok || len(got) != len(want) {
		t.Fatalf("flights for %d, %d: got %v, %v, want %v", run, sum, got, ok, want)
	}
	for i, f := range got {
		height, _ := impl.HeightOf(f)
		if f != want[i] || height != high {
			t.Fatalf("flights for %d, %d: got %v, want %v", run, sum, got, want)
		}
	}
}

func TestEvenRisesAreTogetherHigh(t *testing.T) {
	eachHeight(t, func(high int, _ [][2]int) {
		for risers := 1; risers <= impl.MaxRisers; risers++ {
			list, ok := impl.EvenRisers(high, risers)
			if risers > high {
				wantNoList(t, "even risers", list, ok)
				continue
			}
			if !ok || len(list) != risers {
				t.Fatalf("even risers %d: got %v, %v", risers, list, ok)
			}
			together := 0
			for k, rise := range list {
				together += rise
				// Risers times what is together are at most k times high, and less than that by less than one for each riser.
				if below := (k+1)*high - risers*together; rise < 1 || below < 0 || below >= risers {
					t.Fatalf("even risers %d: got %v", risers, list)
				}
			}
			if together != high {
				t.Fatalf("even risers %d: got %d together", risers, together)
			}
		}
	})
}

func TestFewestRisersAreNoneTooMany(t *testing.T) {
	eachHeight(t, func(high int, _ [][2]int) {
		for most := 1; most <= impl.MaxRise; most++ {
			n, ok := impl.FewestRisers(high, most)
			// The rises are not higher than most, and with one riser fewer they are.
			if !ok || n*most < high || (n-1)*most >= high {
				t.Errorf("fewest risers: got %d, %v for rises of %d", n, ok, most)
			}
		}
	})
}

func TestTreadsHaveTheirPaceSums(t *testing.T) {
	for rise := 1; rise <= impl.MaxRise; rise++ {
		treads := map[int]int{}
		for tread := 1; tread <= impl.MaxTread; tread++ {
			treads[rise+rise+tread] = tread
		}
		for sum := 1; sum <= 2000; sum++ {
			n, ok := impl.TreadFor(rise, sum)
			if want := treads[sum]; n != want || ok != (want > 0) {
				t.Fatalf("tread for %d, %d: got %d, %v, want %d", rise, sum, n, ok, want)
			}
		}
	}
}

func TestMostRisersHaveTheRun(t *testing.T) {
	for tread := 1; tread <= impl.MaxTread; tread++ {
		for run := 0; run <= 50000; run += 1 + run/40 {
			n, ok := impl.MostRisers(run, tread)
			if !ok || n < 1 || n > impl.MaxRisers || (n-1)*tread > run || n < impl.MaxRisers && n*tread <= run {
				t.Fatalf("most risers for %d, %d: got %d, %v", run, tread, n, ok)
			}
		}
		for risers := 1; risers < impl.MaxRisers; risers++ {
			run, _ := impl.RunOf(risen(risers+1, 1, tread))
			n, ok := impl.MostRisers(run, tread)
			wantNumber(t, "most risers", n, ok, risers+1)
			n, ok = impl.MostRisers(run-1, tread)
			wantNumber(t, "most risers", n, ok, risers)
		}
	}
}
