package tests

import (
	"reflect"
	"strings"
	"testing"

	"loop.example/g01374/impl"
)

// wantWhat executes lines on the first desk that are none, and so leave it as it is.
func wantWhat(t *testing.T, lines ...string) {
	t.Helper()
	for _, line := range lines {
		if got := deskTexts(wantLine(t, impl.FirstDesk(), line, "what")); got != firstDesk {
			t.Errorf("%.200q makes %s", line, got)
		}
	}
}

// numberLines returns lines with a number in each place where there is one, told by #, the other numbers being such that the line succeeds.
func numberLines() []string {
	return []string{
		"break #", "mend #", "times #", "set # 1", "set 1 #", "climb #", "many #", "with #", "against #", "taken #", "meet # 1", "meet 1 #", "place # 1", "place 1 #", "risers # 1 9", "risers 9 # 9", "risers 9 1 #",
		"even # 1", "even 9 #", "path #", "end #", "loop #", "after # 1", "after 1 #", "fix #",
	}
}

// plainLines returns the lines of one word alone.
func plainLines() []string {
	return []string{"turn", "back", "count", "first", "few", "short", "far", "reached", "stuck", "needed", "worst", "whole", "high", "run", "slope", "line", "loops", "ends"}
}

// textLines returns lines with a text that is one of its kind.
func textLines() []string {
	return []string{"stairs 4s1,3", "moving 60v3", "flight 4r6t6", "jumps 1,-1", "rank 2,2,1", "next 1,1,2,1"}
}

func TestNumbersOfLines(t *testing.T) {
	for _, line := range numberLines() {
		for _, n := range []string{"0", "1", "9", "10", "30", "31", "100", "501", "999998", "999999"} {
			_, reply, ok := impl.DeskLine(impl.FirstDesk(), strings.Replace(line, "#", n, 1))
			if !ok || reply == "what" {
				t.Errorf("%s with %s: got %q, %v", line, n, reply, ok)
			}
		}
		for _, n := range []string{
			"1000000", "1000001", "9999999", "2147483648", "4294967296", "4294967297", "9223372036854775807", "9223372036854775808", "18446744073709551616", "18446744073709551617", "99999999999999999999", "-1", "-0", "+0", "+1", "-999999", "--1",
			"00", "01", "000", "0999999", "000001", "0000001", "1.0", "1.", "1e1", "0x1", "1_0", "1,1", "1,", "x", "1x", "x1", "N", "#", "-", "+", "٤", "１", "1\x00", "\x00", "\xff", "1\t", "\t1", "1\r", "", strings.Repeat("0", 1000), strings.Repeat("9", 1000), "1" + strings.Repeat("0", 1000),
		} {
			wantWhat(t, strings.Replace(line, "#", n, 1))
		}
	}
}

func TestNoughtAndTheGreatestNumber(t *testing.T) {
	wantKept(t, firstDesk, "many 0 = 0", "many 999999 = 0", "climb 0 = 1,1,2,1", "climb 999999 = no", "after 0 0 = 0", "after 0 999999 = 1", "after 5 999999 = 5", "after 999999 999999 = no", "risers 999999 999999 999999 = no", "risers 0 0 0 = no",
		"with 0 = 30/1", "with 999999 = no", "meet 0 0 = 15/1", "meet 999999 999999 = no", "place 0 0 = 0", "place 0 999999 = no", "path 0 = 0,2,4,1", "path 999999 = no")
}

func TestTextsOfLines(t *testing.T) {
	for line, texts := range map[string][]string{"stairs ": oddTexts(), "moving ": oddMovingTexts(), "flight ": oddFlightTexts(), "jumps ": oddJumpsTexts()} {
		for _, text := range texts {
			// Others are told by too long a line, or by one with a newline.
			if len(line+text) <= impl.MaxScript && !strings.Contains(text, "\n") {
				wantWhat(t, line+text)
			}
		}
	}
	// The texts of other kinds.
	for first, texts := range map[string]string{
		"stairs": "60v3 4r6t6 1,-1 2,2,1 3-0-2-1 2^10:3 20@12*18 100+70 4.0.4 5 no",
		"moving": "4s1,3 4r6t6 1,-1 2,2,1 3-0-2-1 2^10:3 20@12*18 100+70 4.0.4 5 no",
		"flight": "4s1,3 60v3 1,-1 2,2,1 3-0-2-1 2^10:3 20@12*18 100+70 4.0.4 5 no",
		"jumps":  "4s1,3 60v3 4r6t6 3-0-2-1 2^10:3 20@12*18 100+70 4.0.4 no",
		"rank":   "4s1,3 60v3 4r6t6 1,-1 3-0-2-1 2^10:3 20@12*18 100+70 4.0.4 5 no",
		"next":   "4s1,3 60v3 4r6t6 1,-1 3-0-2-1 2^10:3 20@12*18 100+70 4.0.4 5 no",
	} {
		for _, text := range strings.Fields(texts) {
			wantWhat(t, first+" "+text)
		}
	}
}

func TestTextsThatAreNoClimbs(t *testing.T) {
	for _, first := range []string{"rank ", "next "} {
		for _, text := range []string{
			"", "-", ",", "2", "2,2", "2,2,1,", ",2,2,1", "2,,2,1", "2,2,1,1", "2,2,2", "1,2,2", "1,1,1,1,1", "3,2", "5", "2,3", "1,1,3", "0,2,2,1", "2,2,0,1", "2,2,1,0", "2,2,-1,2", "02,2,1", "2,2,01", "+2,2,1", "2,2,+1", "2,2,1.0", "2;2;1", "2.2.1",
			"2-2-1", "2,2,1x", "x", "2,2,x", "1,1,2,1\t", "2,2,1\r", "2,2,1\x00", "\xff", "٢,٢,١", "18446744073709551618,2,1", "2,2,18446744073709551617", "9223372036854775807,9223372036854775807,7", "1,1,2,1s", "5s1,2x3", strings.Repeat("1,", 1000) + "1",
			strings.Repeat("1,", 1490) + "1", strings.Repeat(",", 2000), strings.Repeat("0", 2000),
		} {
			wantWhat(t, first+text)
		}
	}
	wantKept(t, "5s1,2 60v2 4r3t4 0", "rank 1,2,2 = 4", "next 1,2,2 = 2,1,1,1", "rank 3,2 = what", "rank 1,1,1,1,1 = 0", "rank 1,1,1,1,1,1 = what")
	wantKept(t, "5s1,2x1 60v2 4r3t4 0", "rank 1,2,2 = what", "rank 2,1,2 = 1", "next 1,2,2 = what")
	wantKept(t, "9s9 60v2 4r3t4 0", "rank 9 = 0", "next 9 = no", "rank 09 = what", "rank 9,9 = what")
}

func TestTooManyAndTooFewWords(t *testing.T) {
	for _, line := range numberLines() {
		line = strings.Replace(line, "#", "1", 1)
		wantWhat(t, line+" 1", line+" 0", line+" x", line+" 1 1", line+" "+line, line[:strings.LastIndex(line, " ")], strings.Fields(line)[0])
	}
	for _, line := range plainLines() {
		wantWhat(t, line+" 1", line+" 0", line+" x", line+" "+line, line+" 5s1,2x3", line+" 1 1", line+" -")
	}
	for _, line := range textLines() {
		wantWhat(t, line+" 1", line+" x", line+" "+line, line+" "+strings.Fields(line)[1], strings.Fields(line)[0])
	}
}

func TestWordsThatAreEmpty(t *testing.T) {
	var lines []string
	for _, line := range append(numberLines(), append(plainLines(), textLines()...)...) {
		lines = append(lines, strings.Replace(line, "#", "1", 1))
	}
	wantWhat(t, "", " ", "  ", "   ", strings.Repeat(" ", impl.MaxScript))
	for _, line := range lines {
		wantWhat(t, " "+line, line+" ", "  "+line, line+"  ", " "+line+" ", "\t"+line, line+"\t", line+"\r", line+"\x00", strings.Fields(line)[0]+" ", strings.Fields(line)[0]+"  ")
		if strings.Contains(line, " ") {
			wantWhat(t, strings.Replace(line, " ", "  ", 1), strings.Replace(line, " ", "\t", 1), strings.Replace(line, " ", "", 1), strings.Replace(line, " ", "\u00a0", 1), strings.Replace(line, " ", "", -1))
			at := strings.LastIndex(line, " ")
			wantWhat(t, line[:at]+" "+line[at:], line[:at+1])
		}
	}
}

func TestWordsThatNoLineHas(t *testing.T) {
	wantWhat(t, "fly", "what", "no", "-", "0", "1", "5s1,2x3", "60v2", "steps", "visible", "climbs", "stair", "stairss", "Stairs 4s1,3", "STAIRS 4s1,3", "Count", "COUNT", "coun", "countt", "co unt", "\xff", "\x00", "count\x00", "\x00count", "désk", "ｃount",
		"speed 1", "pace 1", "carpet", "puzzle", "through 1", "house", "spiral", "bears", "rolls", "sum", "square", "best", "split 1", "tread 1", "step 1 2", "catch 1 2 3", "round 1", "rail 1 1", "full 1", "meetstep 1 1", "time 0", "coming 0",
		"none", "same 0 1", "change 0 1", "text", "help", "quit", "exit", "end", "loop", "#", "count;count", "count,count", strings.Repeat("x", impl.MaxScript), strings.Repeat("count ", 500))
}

func TestLongLines(t *testing.T) {
	// The words may be as long as the line.
	wantWhat(t, "count"+strings.Repeat(" ", impl.MaxScript-5), "break "+strings.Repeat("1", impl.MaxScript-6), "jumps "+strings.Repeat("1,", 1496)+"11", "stairs 5s1,2x"+strings.Repeat("3", impl.MaxScript-13))
	for _, line := range oddLines() {
		for _, texts := range goodDesks() {
			wantNoLine(t, desk(t, texts), line)
		}
	}
}

// wantNoLine wants a line not to be executed at all.
func wantNoLine(t *testing.T, d impl.Desk, line string) {
	t.Helper()
	behind, reply, ok := impl.DeskLine(d, line)
	if ok || reply != "" || !isNothing(reflect.ValueOf(behind)) {
		t.Errorf("%.200q at %v: got %v, %q, %v, want it to fail", line, d, behind, reply, ok)
	}
}

// oddLines returns texts of which none is a line.
func oddLines() []string {
	return []string{
		"\n", "count\n", "\ncount", "count\ncount", "count\ncount\n", "count\n\n", "mend\n3", "mend 3\n", "mend \n3", "stairs 4s1\n,3", "fly\n", "\r\n", "\x00\n", strings.Repeat("x", 3001), strings.Repeat("x", 2999) + "\n", strings.Repeat("\n", 3000),
		"count" + strings.Repeat(" ", 2996), "break " + strings.Repeat("1", 2995), strings.Repeat(" ", 3001), strings.Repeat("count ", 100000), strings.Repeat("\n", 100000), strings.Repeat("\xff", 100000),
	}
}

func TestDesksThatAreNone(t *testing.T) {
	lines := append(numberLines(), append(plainLines(), textLines()...)...)
	for _, d := range oddDesks(t) {
		for _, line := range append(lines, "", "fly", "count 1", firstDesk) {
			wantNoLine(t, d, strings.Replace(line, "#", "1", 1))
		}
	}
}

// repliesOf returns so many equal replies.
func repliesOf(many int, reply string) []string {
	var all []string
	for range many {
		all = append(all, reply)
	}
	return all
}

func TestLongScripts(t *testing.T) {
	wantScript(t, strings.Repeat("count\n", impl.MaxLines), firstDesk, repliesOf(50, "2"))
	wantScript(t, strings.Repeat("\n", impl.MaxLines), firstDesk, repliesOf(50, "what"), upTo(50)...)
	wantScript(t, strings.Repeat("line\n", impl.MaxLines), firstDesk, repliesOf(50, "no"), upTo(50)...)
	wantScript(t, strings.Repeat("turn\n", impl.MaxLines-1), "5s1,2x2 60v2 4r3t4 2,-1,2,1,-3,0", append(strings.Fields(strings.Repeat("5s1,2x2 5s1,2x3 ", 24)), "5s1,2x2"))
	wantNoScript(t, strings.Repeat("count\n", impl.MaxLines+1))
	wantNoScript(t, strings.Repeat("\n", impl.MaxLines+1))
	// A last line without a newline is one, too.
	wantNoScript(t, strings.Repeat("count\n", impl.MaxLines)+"count")
	wantNoScript(t, strings.Repeat("count\n", impl.MaxLines-1)+"count")
	wantNoScript(t, strings.Repeat("count\n", impl.MaxLines-1)+" ")

	// MaxScript bytes, in one line, in two and in all.
	x := strings.Repeat("x", 2999)
	wantScript(t, x+"\n", firstDesk, []string{"what"}, 1)
	wantScript(t, "count\n"+x[:2993]+"\n", firstDesk, []string{"2", "what"}, 2)
	wantNoScript(t, x+"x\n")
	wantNoScript(t, "count\n"+x[:2994]+"\n")
	wantNoScript(t, x[:2994]+"\ncount")
}

func TestScriptsOfMostBytes(t *testing.T) {
	// 49 lines of 59 bytes, and one of as many as are left.
	line := "stairs 60s1,2x" + "10,11,12,13,14,15,16,17,18,19,20,21,22,23,24" + "\n"
	full := strings.Repeat(line, 49)
	rest := impl.MaxScript - len(full)
	if len(line) != 59 || rest != 109 {
		t.Fatal("a line of", len(line), "bytes,", rest, "left")
	}
	reply := strings.TrimSuffix(strings.TrimPrefix(line, "stairs "), "\n")
	last := strings.Repeat("0", rest-1) + "\n"
	behind := reply + " 60v2 4r3t4 2,-1,2,1,-3,0"
	wantScript(t, full+last, behind, append(repliesOf(49, reply), "what"), 50)
	wantNoScript(t, full+"0"+last)
	wantNoScript(t, full+last[1:]+"x")
	wantNoScript(t, full+last[1:]+"\n")
	wantScript(t, full[59:]+strings.Repeat("0", 59)+last, behind, append(repliesOf(48, reply), "what"), 49)
}
