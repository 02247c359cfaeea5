package tests

import (
	"reflect"
	"strconv"
	"strings"
	"sync"
	"testing"

	"loop.example/g01374/impl"
)

// A call is a kind of line: its first word, the function that it names, and whether this one tells a fraction.
type call struct {
	name     string
	fn       any
	fraction bool
}

// calls returns the lines of the document's table but those with a text of a kind.
func calls() []call {
	return []call{
		{"break", impl.BreakStep, false}, {"mend", impl.MendStep, false}, {"turn", impl.TurnStairs, false}, {"times", impl.TimesFlight, false}, {"set", impl.ChangeJump, false}, {"back", impl.TurnJumps, false},
		{"count", impl.CountClimbs, false}, {"first", impl.FirstClimb, false}, {"few", impl.FewestStrides, false}, {"short", impl.FirstFewest, false}, {"far", impl.MostStrides, false},
		{"rank", impl.RankOfClimb, false}, {"climb", impl.ClimbOfRank, false}, {"next", impl.NextClimb, false}, {"many", impl.CountByStrides, false},
		{"reached", impl.ReachedSteps, false}, {"stuck", impl.StuckSteps, false}, {"needed", impl.NeededSteps, false}, {"worst", impl.WorstToBreak, false},
		{"with", impl.TimeWith, true}, {"against", impl.TimeAgainst, true}, {"taken", impl.StepsWith, true}, {"meet", impl.MeetTime, true}, {"whole", impl.WholeTimes, false}, {"place", impl.PlaceAt, false},
		{"high", impl.HeightOf, false}, {"run", impl.RunOf, false}, {"slope", impl.SlopeOf, true}, {"line", impl.WholeLine, false}, {"risers", impl.WholeRisers, false}, {"even", impl.EvenRisers, false},
		{"path", impl.PathOfBall, false}, {"end", impl.EndOfBall, false}, {"loop", impl.LoopOfBall, false}, {"after", impl.PlaceAfter, false},
		{"loops", impl.AllLoops, false}, {"ends", impl.CountByEnd, false}, {"fix", impl.FewestChanges, false},
	}
}

// partOf returns the part of a desk with which the function of a line is called, none if it asks for no part.
func (c call) partOf(d *impl.Desk) reflect.Value {
	of := reflect.TypeOf(c.fn)
	parts := reflect.ValueOf(d).Elem()
	for i := range parts.NumField() {
		if of.NumIn() > 0 && parts.Field(i).Type() == of.In(0) {
			return parts.Field(i)
		}
	}
	return reflect.Value{}
}

// words returns how many words such a line has behind the first one.
func (c call) words(d *impl.Desk) int {
	many := reflect.TypeOf(c.fn).NumIn()
	if c.partOf(d).IsValid() {
		many--
	}
	return many
}

// made calls the function with a desk and words, changes the desk if the line does, and returns the reply.
func (c call) made(d *impl.Desk, words ...any) string {
	var args []reflect.Value
	part := c.partOf(d)
	if part.IsValid() {
		args = append(args, part)
	}
	for _, word := range words {
		args = append(args, reflect.ValueOf(word))
	}
	results := reflect.ValueOf(c.fn).Call(args)
	last := len(results) - 1
	if !results[last].Bool() {
		return "no"
	}
	if strings.Contains(" break mend turn times set back ", " "+c.name+" ") {
		part.Set(results[0])
	}
	between := " "
	if c.fraction {
		between = "/"
	}
	var told []string
	for _, r := range results[:last] {
		told = append(told, c.told(r))
	}
	return strings.Join(told, between)
}

// told returns what a reply tells of a result.
func (c call) told(result reflect.Value) string {
	switch v := result.Interface().(type) {
	case int:
		return strconv.Itoa(v)
	case string:
		return v
	case impl.Stairs:
		text, _ := impl.StairsText(v)
		return text
	case impl.Flight:
		text, _ := impl.FlightText(v)
		return text
	}
	if result.Len() == 0 {
		return "-"
	}
	between := ","
	if result.Type().Elem().Kind() == reflect.Slice {
		between = " "
	}
	var told []string
	for i := range result.Len() {
		told = append(told, c.told(result.Index(i)))
	}
	return strings.Join(told, between)
}

// variedDesks returns desks whose parts are ordinary ones, at their limits, and such as make calls fail.
func variedDesks(t *testing.T) []impl.Desk {
	t.Helper()
	sets := []string{
		"5s1,2x3", "5s1,2", "4s1,3", "5s2", "1s1", "1s9", "2s1,2x1", "3s3x1,2", "7s1,2,3", "9s2,5,7x4", "10s3", "6s1,3x5", "12s1,4,9x2,3,7", "20s1,2,3,4,5x6,12,18", "30s2,3", "60s1,2", "60s1,2,3,4,5", "60s1", "60s9", "60s5,6,7x11,23,59", "50s1,9x25", "3s1x1", "8s2,3x2,3",
	}
	stairsThatMove := []string{"60v2", "60v0", "1v20", "1v0", "500v20", "500v0", "13v3", "120v1", "64v4", "100v5", "7v7"}
	flights := []string{"4r3t4", "4r6t6", "1r1t1", "100r250t500", "1r250t500", "2r5t12", "13r17t29", "50r1t500", "3r250t1"}
	balls := []string{
		"2,-1,2,1,-3,0", "1,1,-2,3", "0", "1", "-1", "2,1,1", "0,0,0", "-1,-1,2,-4", "3,-2,1,4,-1,2,0,-5,-9,1,5,-3", "5,5", "1,-1,1,-1", "30,-30", strings.Repeat("1,", 29) + "1", strings.Repeat("1,", 29) + "-29", strings.Repeat("0,", 29) + "0", "1,2,-1,-3,0,-5,1", "-2,-2,-2,1",
	}
	var all []impl.Desk
	for i := range len(sets) {
		texts := []string{sets[i], stairsThatMove[i%len(stairsThatMove)], flights[i%len(flights)], balls[i%len(balls)]}
		all = append(all, desk(t, strings.Join(texts, " ")))
	}
	return all
}

// climbsOf returns some climbs of stairs, and lists that are none.
func climbsOf(s impl.Stairs) [][]int {
	var all [][]int
	add := func(climb []int, ok bool) {
		if ok {
			all = append(all, climb)
		}
	}
	add(impl.FirstClimb(s))
	add(impl.FirstFewest(s))
	for _, rank := range []int{1, 2, 3, 7, 100, 999999} {
		add(impl.ClimbOfRank(s, rank))
	}
	if many, ok := impl.CountClimbs(s); ok {
		add(impl.ClimbOfRank(s, many-1))
	}
	return append(all, []int{s.Steps + 1}, []int{1, 1, 1}, []int{0})
}

// holdDeskLine holds one line against the call that it names, made on a copy of the desk.
func holdDeskLine(t *testing.T, d impl.Desk, line string, made func(copied *impl.Desk) string) {
	t.Helper()
	copied := desk(t, deskTexts(d))
	want := made(&copied)
	behind, reply, ok := impl.DeskLine(d, line)
	if !ok || reply != want || deskTexts(behind) != deskTexts(copied) {
		t.Fatalf("%q at %s: got %q, %v, and the desk %s, want %q and %s", line, deskTexts(d), reply, ok, deskTexts(behind), want, deskTexts(copied))
	}
}

// numbersFor returns numbers for each of so many words of a line: the fewer words there are, the more numbers.
func numbersFor(words int) []int {
	few := []int{0, 1, 2, 3, 4, 5, 7, 12, 20, 21, 30, 31, 100, 101, 250, 251, 999, 1000, 1001, 6000, 6001, 999999}
	switch words {
	case 1:
		return append(few, upTo(65)...)
	case 2:
		return few
	}
	return []int{0, 1, 2, 4, 12, 100, 250, 251, 6000, 6001, 999999}
}

func TestLinesMakeTheCallsThatTheyName(t *testing.T) {
	for _, d := range variedDesks(t) {
		for _, c := range calls() {
			switch many := c.words(&d); {
			case c.name == "rank" || c.name == "next":
				holdClimbLines(t, d, c)
			case many == 0:
				holdDeskLine(t, d, c.name, func(copied *impl.Desk) string { return c.made(copied) })
			default:
				holdNumberLines(t, d, c, many, nil)
			}
		}
	}
}

// holdNumberLines holds lines with all choices of so many numbers more.
func holdNumberLines(t *testing.T, d impl.Desk, c call, more int, chosen []any) {
	t.Helper()
	if more == 0 {
		line := c.name
		for _, n := range chosen {
			line += " " + strconv.Itoa(n.(int))
		}
		holdDeskLine(t, d, line, func(copied *impl.Desk) string { return c.made(copied, chosen...) })
		return
	}
	for _, n := range numbersFor(c.words(&d)) {
		holdNumberLines(t, d, c, more-1, append(chosen[:len(chosen):len(chosen)], n))
	}
}

func holdClimbLines(t *testing.T, d impl.Desk, c call) {
	t.Helper()
	for _, climb := range climbsOf(d.Stairs) {
		holdDeskLine(t, d, c.name+" "+c.told(reflect.ValueOf(climb)), func(copied *impl.Desk) string {
			if is, _ := impl.IsClimb(d.Stairs, climb); !is {
				return "what"
			}
			return c.made(copied, climb)
		})
	}
}

// Each part of a desk is set by its text, and by nothing else.
func TestLinesSetWhatTheyName(t *testing.T) {
	all := variedDesks(t)
	for i, d := range all {
		other := all[(i+5)%len(all)]
		text := strings.Fields(deskTexts(other))
		for k, set := range []func(copied *impl.Desk){
			func(copied *impl.Desk) { copied.Stairs = other.Stairs },
			func(copied *impl.Desk) { copied.Moving = other.Moving },
			func(copied *impl.Desk) { copied.Flight = other.Flight },
			func(copied *impl.Desk) { copied.Jumps = other.Jumps },
		} {
			holdDeskLine(t, d, []string{"stairs", "moving", "flight", "jumps"}[k]+" "+text[k], func(copied *impl.Desk) string {
				set(copied)
				return text[k]
			})
		}
	}
}

// scriptLines returns lines of all kinds for scripts, many of which change the desk, and some of which are none.
func scriptLines(t *testing.T) []string {
	t.Helper()
	lines := append(append(plainLines(), textLines()...), "", "fly", "count 1", "rank 3,1", "mend 3 ", "set 1 -1", "times 2", "times 3", "set 0 1", "set 2 0", "after 1 999999")
	for _, line := range numberLines() {
		for _, n := range []string{"0", "1", "2", "3"} {
			lines = append(lines, strings.Replace(line, "#", n, 1))
		}
	}
	for _, d := range variedDesks(t) {
		texts := strings.Fields(deskTexts(d))
		lines = append(lines, "stairs "+texts[0], "moving "+texts[1], "flight "+texts[2])
		if len(texts[3]) < 30 {
			lines = append(lines, "jumps "+texts[3])
		}
	}
	return lines
}

// A script does what its lines do one after the other, each one at the desk behind the line before.
func TestScriptsLineByLine(t *testing.T) {
	lines := scriptLines(t)
	z := 1
	for n := range 1500 {
		var script string
		var replies []string
		var failing []int
		d := impl.FirstDesk()
		for k := 1; k <= n%(impl.MaxLines+1); k++ {
			z = (z*293 + 907) % 10007
			line := lines[(z+n)%len(lines)]
			behind, reply, ok := impl.DeskLine(d, line)
			if !ok || !impl.IsDesk(behind) {
				t.Fatalf("%q at %s: got %q, %v and %v", line, deskTexts(d), reply, ok, behind)
			}
			if reply == "no" || reply == "what" {
				failing = append(failing, k)
				behind = d
			}
			d = behind
			script += line + "\n"
			replies = append(replies, reply)
		}
		wantScript(t, script, deskTexts(d), replies, failing...)
		if t.Failed() {
			t.Fatalf("script %q", script)
		}
	}
}

// Calls at one time know nothing of each other, whether lines of theirs fail or not.
func TestScriptsAtOneTime(t *testing.T) {
	var group sync.WaitGroup
	for k := range 8 {
		group.Go(func() {
			for range 20 {
				if k%2 == 0 {
					wantScript(t, "mend 3\nbreak 1\ncount\nloops\n", "5s1,2x1 60v2 4r3t4 2,-1,2,1,-3,0", []string{"5s1,2", "5s1,2x1", "3", "0,2,4,1 5"})
				} else {
					wantScript(t, "break 3\ncount\nfly\nset 0 0\nloops\n", "5s1,2x3 60v2 4r3t4 0,-1,2,1,-3,0", []string{"no", "2", "what", "0,-1,2,1,-3,0", "0 5"}, 1, 3)
				}
			}
		})
	}
	group.Wait()
}
