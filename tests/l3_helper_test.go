package tests

import (
	"strings"
	"testing"
	"unsafe"

	"loop.example/handsignal/impl"
)

// rightLines has the line of each event of rightEvents, by its Op.
func rightLines() map[int]string {
	return map[int]string{
		impl.EWrite:  "write gert work 0 9",
		impl.EGive:   "give 0",
		impl.ERepeat: "repeat 1 bert: order 1 to bert: pass 2 3 10 on sight",
		impl.EBack:   "back 2 cora",
		impl.ECancel: "cancel 1",
		impl.ELock:   "lock 9",
		impl.EUnlock: "unlock 6",
		impl.EOcc:    "occupied 3",
		impl.EFree:   "free 5",
	}
}

// numberPlaces are lines with a place for a number that may be from 0 to 59 in each of them.
func numberPlaces() []string {
	return []string{
		"write ann pass #", "write ann work #", "give #", "repeat # ann: x", "repeat # ann: ", "back # ann",
		"cancel #", "lock #", "unlock #", "occupied #", "free #",
	}
}

func placed(place, what string) string {
	return strings.Replace(place, "#", what, 1)
}

// wantLine asks for the line, that it is heard as its event, and that the event stays as it is.
func wantLine(t *testing.T, e impl.Event, want string) {
	t.Helper()
	before := copyOfEvents([]impl.Event{e})[0]
	for range 2 {
		if got := impl.Line(e); got != want {
			t.Errorf("Line(%+v) = %q, want %q", e, got, want)
		}
	}
	if !sameEvent(e, before) {
		t.Errorf("Line(%+v) wrote into its argument: %+v", before, e)
	}
	if want != "" {
		wantHeard(t, want, e)
	}
}

func wantNoLine(t *testing.T, e impl.Event) {
	t.Helper()
	wantLine(t, e, "")
}

func wantHeard(t *testing.T, line string, want impl.Event) {
	t.Helper()
	for range 2 {
		if got := impl.Hear(line); !got.Ok || !sameEvent(got.Event, want) {
			t.Errorf("Hear(%q) = %+v, want %+v", line, got, want)
		}
	}
}

// wantUnheard asks that the line is of no event, and that nothing else is told of it.
func wantUnheard(t *testing.T, lines ...string) {
	t.Helper()
	for _, line := range lines {
		if got := impl.Hear(line); got.Ok || !sameEvent(got.Event, impl.Event{}) {
			t.Errorf("Hear(%q) = %+v", line, got)
		}
	}
}

func wantAnswer(t *testing.T, sections int, text, want string) {
	t.Helper()
	for range 2 {
		if got := impl.Answer(sections, text); got != want {
			t.Errorf("Answer(%d, %q) = %q, want %q", sections, text, got, want)
		}
	}
}

// wantReplies asks for the answers to lines of a text, with no other lines in it.
func wantReplies(t *testing.T, sections int, pairs ...[2]string) {
	t.Helper()
	var text, want strings.Builder
	for _, p := range pairs {
		text.WriteString(p[0] + "\n")
		want.WriteString(p[1] + "\n")
	}
	wantAnswer(t, sections, text.String(), want.String())
}

// lent is a text over memory that can be seen and changed from outside.
func lent(text string) (string, []byte) {
	memory := []byte(text)
	return unsafe.String(unsafe.SliceData(memory), len(memory)), memory
}

func spoil(memory []byte) {
	for i := range memory {
		memory[i] = '#'
	}
}
