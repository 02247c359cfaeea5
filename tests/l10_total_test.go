package tests

import (
	"reflect"
	"testing"

	"loop.example/g01374/impl"
)

// deskCalls returns the functions of chapter 10 that a desk is given to.
func deskCalls() []named {
	return []named{
		{"IsDesk", impl.IsDesk},
		{"DeskLine", impl.DeskLine},
	}
}

// scriptCalls returns those that a script is given to.
func scriptCalls() []named {
	return []named{
		{"RunScript", impl.RunScript},
		{"DeskAfter", impl.DeskAfter},
		{"FailedLines", impl.FailedLines},
	}
}

// manyLines returns lines, some of which fail, of all kinds, and texts that are no lines.
func manyLines(t *testing.T) []string {
	t.Helper()
	return append(scriptLines(t), oddLines()...)
}

func manyScripts(t *testing.T) []string {
	t.Helper()
	all := append(oddScripts(), "", "\n", "count\n", "turn\nback\ncount\nloops\n", "fly\nbreak 3\n", "break 3\nmend 3\nmend 3\n")
	for _, line := range manyLines(t) {
		all = append(all, line, line+"\n", line+"\n"+line+"\n")
	}
	return all
}

func TestNothingWorksWithoutDesk(t *testing.T) {
	wantAllFail(t, deskCalls(), oddDesks(t), manyLines(t))
}

func TestNothingWorksWithoutLine(t *testing.T) {
	var good []impl.Desk
	for _, texts := range goodDesks() {
		good = append(good, desk(t, texts))
	}
	wantAllFail(t, []named{{"DeskLine", impl.DeskLine}}, good, oddLines())
}

func TestNothingWorksWithoutScript(t *testing.T) {
	wantAllFail(t, scriptCalls(), oddScripts())
}

func TestConsoleCallsAreTotal(t *testing.T) {
	var desks []impl.Desk
	for _, texts := range goodDesks() {
		desks = append(desks, desk(t, texts))
	}
	holdTotal(t, deskCalls(), append(desks, oddDesks(t)...), manyLines(t))
	holdTotal(t, scriptCalls(), manyScripts(t))
}

// Who changes the first desk changes no other one, and no script that begins there.
func TestFirstDeskIsNew(t *testing.T) {
	f := named{"FirstDesk", impl.FirstDesk}
	one, other := reflect.ValueOf(impl.FirstDesk()), reflect.ValueOf(impl.FirstDesk())
	holdMemory(t, f, []reflect.Value{one}, []reflect.Value{other})
	scribble(one)
	scribble(other)
	if got := deskTexts(impl.FirstDesk()); got != firstDesk {
		t.Errorf("the first desk has become %s", got)
	}
	wantScript(t, "count\nloops\n", firstDesk, []string{"2", "0,2,4,1 5"})
}

// A desk behind a line that changes another part of it, or fails, is in new memory all the same.
func TestDesksShareNoMemory(t *testing.T) {
	for _, line := range []string{"stairs 4s1,3", "break 1", "mend 3", "turn", "moving 60v3", "flight 4r6t6", "times 2", "jumps 1,2", "set 0 1", "back", "count", "loops", "line", "break 3", "fly", ""} {
		d := impl.FirstDesk()
		behind, _, ok := impl.DeskLine(d, line)
		texts := deskTexts(behind)
		scribble(reflect.ValueOf(d))
		if !ok || deskTexts(behind) != texts {
			t.Errorf("%q: the desk behind it becomes %s with the one before it", line, deskTexts(behind))
		}
	}
}
