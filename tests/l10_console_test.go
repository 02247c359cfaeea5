package tests

import (
	"reflect"
	"slices"
	"strings"
	"testing"

	"loop.example/g01374/impl"
)

// desk returns the desk with these texts: of stairs, a moving stair, a flight and jumps, with blanks between them.
func desk(t *testing.T, texts string) impl.Desk {
	t.Helper()
	part := strings.Fields(texts)
	return impl.Desk{Stairs: stairs(t, part[0]), Moving: moving(t, part[1]), Flight: flight(t, part[2]), Jumps: jumps(t, part[3])}
}

// deskTexts returns these texts of a desk, with a question mark for each part that is none.
func deskTexts(d impl.Desk) string {
	var texts []string
	add := func(text string, ok bool) {
		if !ok {
			text = "?"
		}
		texts = append(texts, text)
	}
	add(impl.StairsText(d.Stairs))
	add(impl.MovingText(d.Moving))
	add(impl.FlightText(d.Flight))
	add(impl.JumpsText(d.Jumps))
	return strings.Join(texts, " ")
}

const firstDesk = "5s1,2x3 60v2 4r3t4 2,-1,2,1,-3,0"

// wantLine executes a line on a desk, and returns the desk behind it.
func wantLine(t *testing.T, d impl.Desk, line string, want string) impl.Desk {
	t.Helper()
	before := deskTexts(d)
	behind, reply, ok := impl.DeskLine(d, line)
	if !ok || reply != want {
		t.Errorf("%q at %s: got %q, %v, want %q", line, before, reply, ok, want)
	}
	if (want == "no" || want == "what") && deskTexts(behind) != before {
		t.Errorf("%q at %s fails, and leaves %s", line, before, deskTexts(behind))
	}
	return behind
}

// wantLines executes lines, each one told with its reply behind an equals sign, at the desk that the lines before it left.
func wantLines(t *testing.T, d impl.Desk, lines ...string) impl.Desk {
	t.Helper()
	for _, told := range lines {
		line, want, _ := strings.Cut(told, " = ")
		d = wantLine(t, d, line, want)
	}
	return d
}

// wantKept executes such lines that all leave the desk as it is.
func wantKept(t *testing.T, texts string, lines ...string) {
	t.Helper()
	if got := deskTexts(wantLines(t, desk(t, texts), lines...)); got != texts {
		t.Errorf("%s becomes %s", texts, got)
	}
}

// wantMade executes one line that succeeds, and holds the desk behind it.
func wantMade(t *testing.T, texts string, line string, reply string, want string) {
	t.Helper()
	if got := deskTexts(wantLine(t, desk(t, texts), line, reply)); got != want {
		t.Errorf("%q at %s: the desk behind it is %s, want %s", line, texts, got, want)
	}
}

// wantScript holds all that is told of a script: its replies, the desk behind it, and its lines that fail.
func wantScript(t *testing.T, script string, behind string, replies []string, failing ...int) {
	t.Helper()
	got, ok := impl.RunScript(script)
	if !ok || !slices.Equal(got, replies) {
		t.Errorf("replies to %.200q: got %q, %v, want %q", script, got, ok, replies)
	}
	d, ok := impl.DeskAfter(script)
	if !ok || deskTexts(d) != behind {
		t.Errorf("desk behind %.200q: got %s, %v, want %s", script, deskTexts(d), ok, behind)
	}
	numbers, ok := impl.FailedLines(script)
	wantList(t, "failed lines", numbers, ok, failing...)
}

// wantNoScript wants all calls that are given a script to fail.
func wantNoScript(t *testing.T, script string) {
	t.Helper()
	if got, ok := impl.RunScript(script); ok || len(got) != 0 {
		t.Errorf("replies to %.200q: got %q, %v, want it to fail", script, got, ok)
	}
	if d, ok := impl.DeskAfter(script); ok || !isNothing(reflect.ValueOf(d)) {
		t.Errorf("desk behind %.200q: got %v, %v, want it to fail", script, d, ok)
	}
	numbers, ok := impl.FailedLines(script)
	wantNoList(t, "failed lines", numbers, ok)
}

func TestFirstDesk(t *testing.T) {
	if impl.MaxScript != 3000 || impl.MaxLines != 50 {
		t.Error("other limits than the document's")
	}
	if got := deskTexts(impl.FirstDesk()); got != firstDesk {
		t.Errorf("first desk: got %s, want %s", got, firstDesk)
	}
	if !impl.IsDesk(impl.FirstDesk()) {
		t.Error("the first desk is a desk")
	}
}

func TestIsDesk(t *testing.T) {
	for _, texts := range goodDesks() {
		if !impl.IsDesk(desk(t, texts)) {
			t.Errorf("%s is a desk", texts)
		}
	}
	for _, d := range oddDesks(t) {
		if impl.IsDesk(d) {
			t.Errorf("%v is no desk", d)
		}
	}
}

// goodDesks returns the texts of desks, some of them at the limits of their parts.
func goodDesks() []string {
	return []string{
		firstDesk, "1s1 1v0 1r1t1 0", "5s2 1v20 1r3t4 1", "60s1,2,3,4,5 500v20 100r250t500 " + strings.Repeat("30,", 29) + "-30", "7s1,2,3x4,5 60v0 4r6t6 1,1,-2,3",
	}
}

// oddDesks returns desks of which none is one: each part that is none, with all others as they should be, and several ones.
func oddDesks(t *testing.T) []impl.Desk {
	t.Helper()
	var all []impl.Desk
	with := func(change func(d *impl.Desk)) {
		d := impl.FirstDesk()
		change(&d)
		all = append(all, d)
	}
	for _, s := range append(oddStairs(), hugeStairs()...) {
		with(func(d *impl.Desk) { d.Stairs = s })
	}
	for _, m := range oddMoving() {
		with(func(d *impl.Desk) { d.Moving = m })
	}
	for _, f := range oddFlights() {
		with(func(d *impl.Desk) { d.Flight = f })
	}
	for _, j := range append(oddJumps(), make([]int, 100000)) {
		with(func(d *impl.Desk) { d.Jumps = j })
	}
	with(func(d *impl.Desk) { d.Stairs, d.Moving = impl.Stairs{}, impl.Moving{} })
	with(func(d *impl.Desk) { d.Flight, d.Jumps = impl.Flight{}, nil })
	return append(all, impl.Desk{})
}

func TestExampleOfTheConsole(t *testing.T) {
	told := []string{
		"count = 2", "first = 1,1,2,1", "few = 3", "far = 4", "needed = 2,4,5", "rank 2,2,1 = 1", "climb 1 = 2,2,1", "next 1,1,2,1 = 2,2,1", "many 3 = 1", "mend 3 = 5s1,2", "count = 8", "worst = 2 6", "break 5 = no",
		"with 1 = 20/1", "taken 1 = 20/1", "against 2 = no", "meet 1 2 = 60/7", "place 1 7 = 21", "high = 12", "slope = 3/4", "line = no", "flight 4r6t6 = 4r6t6", "line = 30", "times 2 = 4r12t12",
		"risers 12 2 4 = 3,4,6", "even 10 4 = 2,3,2,3", "path 3 = 3,4,1,0,2", "end 3 = l", "loop 3 = 0,2,4,1", "after 3 5 = 4", "loops = 0,2,4,1 5", "ends = 0 0 6", "set 5 1 = 2,-1,2,1,-3,1", "ends = 0 1 5", "fix 0 = 1",
		"back = -1,3,-1,-2,1,-2", "fly = what",
	}
	var script string
	var replies []string
	for _, one := range told {
		line, reply, _ := strings.Cut(one, " = ")
		script += line + "\n"
		replies = append(replies, reply)
	}
	behind := "5s1,2 60v2 4r12t12 -1,3,-1,-2,1,-2"
	wantScript(t, script, behind, replies, 13, 16, 21, 37)
	if got := deskTexts(wantLines(t, impl.FirstDesk(), told...)); got != behind {
		t.Errorf("the desk behind the example is %s, want %s", got, behind)
	}
}

func TestLinesThatSetTheDesk(t *testing.T) {
	wantMade(t, firstDesk, "stairs 4s1,3", "4s1,3", "4s1,3 60v2 4r3t4 2,-1,2,1,-3,0")
	wantMade(t, firstDesk, "stairs 60s1,2,3,4,9x1,59", "60s1,2,3,4,9x1,59", "60s1,2,3,4,9x1,59 60v2 4r3t4 2,-1,2,1,-3,0")
	wantMade(t, firstDesk, "stairs 1s9", "1s9", "1s9 60v2 4r3t4 2,-1,2,1,-3,0")
	wantMade(t, firstDesk, "moving 500v20", "500v20", "5s1,2x3 500v20 4r3t4 2,-1,2,1,-3,0")
	wantMade(t, firstDesk, "moving 1v0", "1v0", "5s1,2x3 1v0 4r3t4 2,-1,2,1,-3,0")
	wantMade(t, firstDesk, "flight 100r250t500", "100r250t500", "5s1,2x3 60v2 100r250t500 2,-1,2,1,-3,0")
	wantMade(t, firstDesk, "flight 1r1t1", "1r1t1", "5s1,2x3 60v2 1r1t1 2,-1,2,1,-3,0")
	wantMade(t, firstDesk, "jumps 0", "0", "5s1,2x3 60v2 4r3t4 0")
	wantMade(t, firstDesk, "jumps -30,30,0,-1", "-30,30,0,-1", "5s1,2x3 60v2 4r3t4 -30,30,0,-1")
	long := strings.Repeat("-30,", 29) + "30"
	wantMade(t, firstDesk, "jumps "+long, long, "5s1,2x3 60v2 4r3t4 "+long)
	// What is there already may be set again.
	wantMade(t, firstDesk, "stairs 5s1,2x3", "5s1,2x3", firstDesk)
	wantMade(t, firstDesk, "jumps 2,-1,2,1,-3,0", "2,-1,2,1,-3,0", firstDesk)
}

func TestLinesThatChangeTheDesk(t *testing.T) {
	wantMade(t, firstDesk, "break 1", "5s1,2x1,3", "5s1,2x1,3 60v2 4r3t4 2,-1,2,1,-3,0")
	wantMade(t, firstDesk, "break 4", "5s1,2x3,4", "5s1,2x3,4 60v2 4r3t4 2,-1,2,1,-3,0")
	wantMade(t, firstDesk, "mend 3", "5s1,2", "5s1,2 60v2 4r3t4 2,-1,2,1,-3,0")
	wantMade(t, firstDesk, "turn", "5s1,2x2", "5s1,2x2 60v2 4r3t4 2,-1,2,1,-3,0")
	wantMade(t, "5s1,2 60v2 4r3t4 0", "turn", "5s1,2", "5s1,2 60v2 4r3t4 0")
	wantMade(t, firstDesk, "times 2", "4r6t8", "5s1,2x3 60v2 4r6t8 2,-1,2,1,-3,0")
	wantMade(t, firstDesk, "times 1", "4r3t4", firstDesk)
	wantMade(t, firstDesk, "times 83", "4r249t332", "5s1,2x3 60v2 4r249t332 2,-1,2,1,-3,0")
	wantMade(t, firstDesk, "set 0 0", "0,-1,2,1,-3,0", "5s1,2x3 60v2 4r3t4 0,-1,2,1,-3,0")
	wantMade(t, firstDesk, "set 5 30", "2,-1,2,1,-3,30", "5s1,2x3 60v2 4r3t4 2,-1,2,1,-3,30")
	wantMade(t, firstDesk, "set 1 7", "2,7,2,1,-3,0", "5s1,2x3 60v2 4r3t4 2,7,2,1,-3,0")
	wantMade(t, firstDesk, "back", "0,3,-1,-2,1,-2", "5s1,2x3 60v2 4r3t4 0,3,-1,-2,1,-2")
	wantMade(t, "5s1,2 60v2 4r3t4 0", "back", "0", "5s1,2 60v2 4r3t4 0")

	// There is no such step, it is the top, or it is broken already; or it was not broken.
	wantKept(t, firstDesk, "break 0 = no", "break 5 = no", "break 6 = no", "break 3 = no", "break 999999 = no", "mend 0 = no", "mend 5 = no", "mend 2 = no", "mend 6 = no", "mend 999999 = no")
	wantKept(t, "1s1 60v2 4r3t4 0", "break 1 = no", "mend 1 = no", "turn = 1s1")
	wantKept(t, firstDesk, "times 0 = no", "times 84 = no", "times 500 = no", "times 501 = no", "times 999999 = no")
	wantKept(t, "5s1 60v2 4r250t1 0", "times 1 = 4r250t1", "times 2 = no")
	wantKept(t, "5s1 60v2 4r1t500 0", "times 1 = 4r1t500", "times 2 = no")
	wantKept(t, firstDesk, "set 6 0 = no", "set 0 31 = no", "set 6 31 = no", "set 999999 0 = no", "set 0 999999 = no", "set 999999 999999 = no")
}

func TestLinesThatAskForClimbs(t *testing.T) {
	wantKept(t, "4s1,3 60v2 4r3t4 0",
		"count = 3", "first = 1,1,1,1", "few = 2", "short = 1,3", "far = 4", "rank 1,1,1,1 = 0", "rank 1,3 = 1", "rank 3,1 = 2", "climb 0 = 1,1,1,1", "climb 1 = 1,3", "climb 2 = 3,1", "climb 3 = no", "climb 999999 = no",
		"next 1,1,1,1 = 1,3", "next 1,3 = 3,1", "next 3,1 = no", "many 0 = 0", "many 2 = 2", "many 3 = 0", "many 4 = 1", "many 5 = 0", "many 61 = 0", "many 999999 = 0",
		"reached = 1,2,3,4", "stuck = -", "needed = 4", "worst = 1 2")
	wantKept(t, firstDesk, "short = 2,2,1", "reached = 1,2,4,5", "stuck = -", "worst = 2 2", "next 2,2,1 = no", "climb 2 = no", "many 4 = 1", "rank 1,1,2,1 = 0")
	// One step: nothing can be broken.
	wantKept(t, "1s1 60v2 4r3t4 0", "count = 1", "first = 1", "few = 1", "short = 1", "far = 1", "rank 1 = 0", "climb 0 = 1", "climb 1 = no", "next 1 = no", "many 1 = 1", "many 0 = 0", "reached = 1", "stuck = -", "needed = 1", "worst = no")
	// All steps below the top are broken.
	wantKept(t, "3s3x1,2 60v2 4r3t4 0", "count = 1", "first = 3", "short = 3", "needed = 3", "reached = 3", "worst = 1 0")
}

func TestStairsWithoutClimbAtTheConsole(t *testing.T) {
	wantKept(t, "5s2 60v2 4r3t4 0",
		"count = 0", "first = no", "few = no", "short = no", "far = no", "climb 0 = no", "climb 1 = no", "many 0 = 0", "many 2 = 0", "many 999999 = 0", "reached = 2,4", "stuck = 2,4", "needed = no", "worst = no",
		// No text tells a climb.
		"rank 2,2 = what", "rank 2,2,2 = what", "rank 2,2,1 = what", "rank 5 = what", "rank - = what", "next 2,2 = what", "next 2 = what", "turn = 5s2")
	// Nothing can be reached at all.
	wantKept(t, "5s9 60v2 4r3t4 0", "count = 0", "reached = -", "stuck = -", "needed = no", "first = no")
	wantKept(t, "3s1x1 60v2 4r3t4 0", "count = 0", "reached = -", "stuck = -", "worst = no", "far = no", "rank 1,1,1 = what")
}

// There are more climbs than can be told by ranks.
func TestTooManyClimbsAtTheConsole(t *testing.T) {
	ones := strings.Repeat("1,", 59) + "1"
	long := strings.TrimSuffix(strings.Repeat("5,", 12), ",")
	wantKept(t, "60s1,2,3,4,5 60v2 4r3t4 0",
		"count = no", "first = "+ones, "few = 12", "short = "+long, "far = 60", "rank "+ones+" = no", "rank "+long+" = no", "next "+ones+" = no", "climb 0 = no", "many 12 = no", "many 0 = no", "worst = no", "needed = 60", "stuck = -",
		// A climb's text that is none is none all the same.
		"rank 1 = what", "rank "+ones+",1 = what", "next "+long+",5 = what", "next 6 = what")
	wantKept(t, "60s1 60v2 4r3t4 0", "rank "+ones+" = 0", "next "+ones+" = no", "many 60 = 1", "many 59 = 0", "climb 0 = "+ones, "worst = 1 1")
}

func TestLinesThatAskForMovingStairs(t *testing.T) {
	wantKept(t, firstDesk,
		"with 0 = 30/1", "with 1 = 20/1", "with 5 = 60/7", "with 20 = 30/11", "with 21 = no", "with 999999 = no", "against 0 = no", "against 1 = no", "against 2 = no", "against 3 = 60/1", "against 20 = 10/3", "against 21 = no",
		"taken 0 = 0/1", "taken 1 = 20/1", "taken 5 = 300/7", "taken 21 = no", "meet 0 0 = 15/1", "meet 1 2 = 60/7", "meet 20 20 = 15/11", "meet 21 0 = no", "meet 0 21 = no",
		"whole = 0,1,2,3,4,8,10,13,18", "place 1 7 = 21", "place 0 0 = 0", "place 0 999 = 60", "place 20 1 = 22", "place 20 1000 = 60", "place 0 1001 = no", "place 21 0 = no", "place 999999 999999 = no")
	// It goes no faster than the fastest one can walk.
	wantKept(t, "1s1 1v20 4r3t4 0", "with 0 = 1/20", "with 20 = 1/40", "against 20 = no", "taken 20 = 1/2", "taken 0 = 0/1", "meet 20 20 = 1/80", "whole = -", "place 0 1 = 1")
	wantKept(t, "1s1 500v1 4r3t4 0", "with 4 = 100/1", "against 2 = 500/1", "taken 3 = 375/1", "meet 3 4 = 500/9", "whole = 0,1,3,4,9,19", "place 2 100 = 300")
}

func TestMovingStairsThatStandAtTheConsole(t *testing.T) {
	wantKept(t, "5s1 60v0 4r3t4 0",
		"with 0 = no", "with 1 = 60/1", "with 7 = 60/7", "against 0 = no", "against 7 = 60/7", "taken 0 = no", "taken 7 = 60/1", "meet 0 0 = no", "meet 0 1 = 60/1", "meet 1 0 = 60/1", "whole = 1,2,3,4,5,6,10,12,15,20",
		"place 0 0 = 0", "place 0 1000 = 0", "place 3 20 = 60", "place 3 19 = 57")
	wantKept(t, "5s1 1v0 4r3t4 0", "with 20 = 1/20", "whole = 1", "meet 0 0 = no")
}

func TestLinesThatAskForFlights(t *testing.T) {
	wantKept(t, firstDesk, "high = 12", "run = 12", "slope = 3/4", "line = no")
	wantKept(t, "1s1 1v0 4r6t6 0", "high = 24", "run = 18", "slope = 1/1", "line = 30")
	wantKept(t, "1s1 1v0 100r250t500 0", "high = 25000", "run = 49500", "slope = 1/2", "line = no")
	// One riser has no run.
	wantKept(t, "1s1 1v0 1r3t4 0", "high = 3", "run = 0", "slope = 3/4", "line = 3")
	wantKept(t, "1s1 1v0 1r250t1 0", "high = 250", "run = 0", "slope = 250/1", "line = 250", "times 1 = 1r250t1", "times 2 = no")
	wantKept(t, "1s1 1v0 1r1t500 0", "slope = 1/500", "line = 1")
	// These lines ask for no flight.
	for _, texts := range []string{firstDesk, "1s1 1v0 1r1t1 0"} {
		wantKept(t, texts,
			"risers 12 2 4 = 3,4,6", "risers 12 4 2 = -", "risers 7 2 6 = -", "risers 7 1 7 = 1,7", "risers 6000 250 250 = 24", "risers 250 250 250 = 1", "risers 251 250 250 = -", "risers 6001 1 1 = no", "risers 0 1 1 = no",
			"risers 12 0 4 = no", "risers 12 2 0 = no", "risers 12 251 251 = no", "risers 12 2 251 = no", "risers 999999 1 1 = no", "risers 12 999999 1 = no", "risers 12 1 999999 = no",
			"even 10 4 = 2,3,2,3", "even 12 1 = 12", "even 3 3 = 1,1,1", "even 6000 1 = 6000", "even 3 4 = no", "even 0 0 = no", "even 12 0 = no", "even 0 1 = no", "even 6000 101 = no", "even 6001 4 = no", "even 999999 999999 = no")
	}
}

func TestLinesThatAskForBalls(t *testing.T) {
	wantKept(t, firstDesk,
		"path 3 = 3,4,1,0,2", "path 5 = 5", "path 0 = 0,2,4,1", "path 6 = no", "path 999999 = no", "end 0 = l", "end 5 = l", "end 6 = no", "loop 3 = 0,2,4,1", "loop 5 = 5", "loop 6 = no", "after 3 0 = 3", "after 3 1 = 4", "after 3 5 = 4", "after 3 999999 = 0",
		"after 6 0 = no", "after 999999 0 = no", "loops = 0,2,4,1 5", "ends = 0 0 6", "fix 0 = 2", "fix 5 = 1", "fix 6 = no")
	wantKept(t, "1s1 1v0 1r1t1 1,1,-2,3",
		"path 3 = 3", "end 3 = b", "end 0 = l", "loop 3 = no", "loop 2 = 0,1,2", "after 3 1 = 4", "after 3 999999 = 4", "after 3 0 = 3", "loops = 0,1,2", "ends = 0 1 3", "fix 0 = 1", "fix 3 = 0", "end 4 = no", "fix 4 = no")
	// A ball that is out above is at -1.
	wantKept(t, "1s1 1v0 1r1t1 -1,-1,2,-4",
		"after 0 0 = 0", "after 0 1 = -1", "after 1 1 = 0", "after 1 2 = -1", "after 1 999999 = -1", "after 2 1 = 4", "after 3 1 = -1", "end 0 = a", "end 2 = b", "ends = 3 1 0", "loops = -", "loop 0 = no", "path 1 = 1,0", "fix 0 = no", "fix 2 = 0")
	wantKept(t, "1s1 1v0 1r1t1 0", "path 0 = 0", "end 0 = l", "loop 0 = 0", "after 0 999999 = 0", "loops = 0", "ends = 0 0 1", "fix 0 = 1", "path 1 = no", "after 1 0 = no", "back = 0")
	// Jumps of 0 are loops of their own.
	wantKept(t, "1s1 1v0 1r1t1 0,0,1,0,1,-1", "loops = 0 1 3 4,5", "ends = 0 0 6", "fix 0 = 4", "path 2 = 2,3", "loop 4 = 4,5", "loop 5 = 4,5", "after 5 7 = 4", "after 4 8 = 4")
	wantKept(t, "1s1 1v0 1r1t1 5,5", "loops = -", "ends = 0 2 0", "fix 1 = 0")
}

func TestLinesBehindOneAnother(t *testing.T) {
	behind := wantLines(t, impl.FirstDesk(),
		"break 1 = 5s1,2x1,3", "count = 1", "break 2 = 5s1,2x1,2,3", "count = 0", "mend 1 = 5s1,2x2,3", "mend 1 = no", "turn = 5s1,2x2,3", "mend 2 = 5s1,2x3", "rank 2,2,1 = 1", "stairs 4s1,3 = 4s1,3",
		// The stairs that there are now tell what is a climb.
		"rank 2,2,1 = what", "rank 1,3 = 1", "break 1 = 4s1,3x1", "rank 1,3 = what", "rank 3,1 = 0",
		"moving 60v0 = 60v0", "with 0 = no", "moving 60v1 = 60v1", "with 0 = 60/1",
		"times 3 = 4r9t12", "times 3 = 4r27t36", "slope = 3/4", "times 30 = no", "run = 108",
		"set 0 1 = 1,-1,2,1,-3,0", "loops = 0,1 5", "back = 0,3,-1,-2,1,-1", "loops = 0 4,5", "set 4 0 = 0,3,-1,-2,0,-1", "loops = 0 4", "back = 1,0,2,1,-3,0", "jumps 1 = 1", "ends = 0 1 0", "set 1 1 = no")
	if got, want := deskTexts(behind), "4s1,3x1 60v1 4r27t36 1"; got != want {
		t.Errorf("got %s, want %s", got, want)
	}
}

func TestLinesThatFailChangeNothing(t *testing.T) {
	var script string
	var replies []string
	var failing []int
	for i, told := range []string{
		"break 3 = no", "break 5 = no", "mend 1 = no", "stairs 5 = what", "stairs 5s1,2x5 = what", "turn 1 = what", "rank 1 = what", "next 2,2,1 = no", "climb 9 = no", "moving 0v1 = what", "moving 60 = what", "against 0 = no",
		"flight 4r3 = what", "flight 0r3t4 = what", "times 0 = no", "times 99 = no", "line = no", "jumps 31 = what", "jumps = what", "set 6 1 = no", "set 1 31 = no", "set 1 -1 = what", "back 1 = what", " = what",
	} {
		d := wantLines(t, impl.FirstDesk(), told)
		// This is what the desk showed before.
		wantKept(t, deskTexts(d), "count = 2", "with 1 = 20/1", "slope = 3/4", "path 3 = 3,4,1,0,2")
		if deskTexts(d) != firstDesk {
			t.Errorf("%q leaves %s", told, deskTexts(d))
		}
		line, reply, _ := strings.Cut(told, " = ")
		shows := []string{"needed", "with 1", "slope", "path 3"}[i%4]
		script += line + "\n" + shows + "\n"
		replies = append(replies, reply, []string{"2,4,5", "20/1", "3/4", "3,4,1,0,2"}[i%4])
		failing = append(failing, 2*i+1)
	}
	wantScript(t, script, firstDesk, replies, failing...)
}

func TestSmallScripts(t *testing.T) {
	wantScript(t, "", firstDesk, nil)
	wantScript(t, "\n", firstDesk, []string{"what"}, 1)
	wantScript(t, "\n\n", firstDesk, []string{"what", "what"}, 1, 2)
	wantScript(t, "count\n", firstDesk, []string{"2"})
	wantScript(t, "line\n", firstDesk, []string{"no"}, 1)
	wantScript(t, "fly\n", firstDesk, []string{"what"}, 1)
	wantScript(t, "mend 3\n", "5s1,2 60v2 4r3t4 2,-1,2,1,-3,0", []string{"5s1,2"})
	wantScript(t, "\ncount\n", firstDesk, []string{"what", "2"}, 1)
	wantScript(t, "count\n\n", firstDesk, []string{"2", "what"}, 2)
	wantScript(t, "count\n\ncount\n", firstDesk, []string{"2", "what", "2"}, 2)
	wantScript(t, "loops\nstuck\nafter 0 3\nset 0 0\njumps -1\nafter 0 1\n", "5s1,2x3 60v2 4r3t4 -1", []string{"0,2,4,1 5", "-", "1", "0,-1,2,1,-3,0", "-1", "-1"})
	// A byte 13 in front of the newline belongs to the last word.
	wantScript(t, "count\r\ncount\n", firstDesk, []string{"what", "2"}, 1)
}

func TestTextsThatAreNoScript(t *testing.T) {
	for _, s := range oddScripts() {
		wantNoScript(t, s)
	}
}

// oddScripts returns texts of which none is a script.
func oddScripts() []string {
	return []string{
		"count", " ", "x", "count\ncount", "\ncount", "count\n ", "count\n\ncount", "mend 3\nx", "\n\r", "count\r", "count\x00", "\x00", "\xff", strings.Repeat("\n", 51), strings.Repeat("count\n", 51), strings.Repeat("count\n", 50) + "count",
		strings.Repeat("\n", 50) + "x", strings.Repeat("x", 2999), strings.Repeat("x", 3000), strings.Repeat("x", 3000) + "\n", strings.Repeat("count\n", 49) + strings.Repeat("x", 2706) + "\n", strings.Repeat("\n", 3000), strings.Repeat("\n", 100000),
		strings.Repeat("x", 100000) + "\n", strings.Repeat("count\n", 100000), strings.Repeat(" ", 100000),
	}
}
