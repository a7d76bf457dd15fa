package tests

import (
	"fmt"
	"strings"
	"testing"

	"loop.example/handsignal/impl"
)

func TestTheLineOfEachRow(t *testing.T) {
	for op := 1; op <= 9; op++ {
		e := rightEvents()[op]
		wantLine(t, e, rightLines()[op])
		if len(e.Sections) == 0 {
			e.Sections = []int{}
			wantLine(t, e, rightLines()[op])
		}
	}
	wantLine(t, wrote("ann", impl.KPass, 0, 1), "write ann pass 0 1")
	wantLine(t, wrote("pass", impl.KWork, 7), "write pass work 7")
	wantLine(t, gaveBack(10, "back"), "back 10 back")
	wantLine(t, repeated(0, "repeat", "repeat 0 repeat: "), "repeat 0 repeat: repeat 0 repeat: ")
}

func TestOpsThatHaveNoLine(t *testing.T) {
	for _, op := range append([]int{0, 10, 11, 256 + 1, 1<<32 + 1}, farNumbers...) {
		wantNoLine(t, impl.Event{Op: op})
		for _, e := range rightEvents() {
			wantNoLine(t, changed(e, func(e *impl.Event) { e.Op = op }))
		}
	}
}

func TestEmptyEventsHaveALineWhereTheirFieldsMayBeZero(t *testing.T) {
	for op, want := range map[int]string{
		impl.EWrite: "", impl.EGive: "give 0", impl.ERepeat: "", impl.EBack: "", impl.ECancel: "cancel 0",
		impl.ELock: "lock 0", impl.EUnlock: "unlock 0", impl.EOcc: "occupied 0", impl.EFree: "free 0",
	} {
		wantLine(t, impl.Event{Op: op}, want)
	}
}

func TestHolderOfALine(t *testing.T) {
	for _, name := range goodNames() {
		wantLine(t, wrote(name, impl.KPass, 3), "write "+name+" pass 3")
		wantLine(t, repeated(3, name, "x"), "repeat 3 "+name+": x")
		wantLine(t, gaveBack(3, name), "back 3 "+name)
	}
	for _, name := range append(badNames(), "ann:", ": ", "ann: x", " ann", "ann ", "\nann") {
		wantNoLine(t, wrote(name, impl.KPass, 3))
		wantNoLine(t, repeated(3, name, "x"))
		wantNoLine(t, gaveBack(3, name))
	}
}

func TestKindOfALine(t *testing.T) {
	wantLine(t, wrote("ann", impl.KPass, 3), "write ann pass 3")
	wantLine(t, wrote("ann", impl.KWork, 3), "write ann work 3")
	for _, kind := range append([]int{0, 3, 4, 1<<32 + 1}, farNumbers...) {
		wantNoLine(t, wrote("ann", kind, 3))
	}
}

func TestSectionsOfALine(t *testing.T) {
	for _, list := range [][]int{{0}, {59}, {0, 59}, {8, 9, 10, 11}, {5, 50}, numbers(0, 20), numbers(40, 60)} {
		wantLine(t, wrote("ann", impl.KWork, list...), "write ann work "+strings.Trim(fmt.Sprint(list), "[]"))
	}
	bad := [][]int{nil, {}, {-1}, {-1, 0}, {60}, {0, 60}, {59, 60}, {1, 0}, {0, 2, 1}, {0, 0}, {3, 3}, {0, 5, 5}, {10, 9}, numbers(0, 21), numbers(39, 60), numbers(0, 60)}
	for _, n := range farNumbers {
		bad = append(bad, []int{n}, []int{0, n}, []int{n, 0})
	}
	for _, list := range bad {
		wantNoLine(t, wrote("ann", impl.KWork, list...))
	}
}

func TestOfOfALine(t *testing.T) {
	for op := 2; op <= 9; op++ {
		right := rightEvents()[op]
		word, rest, _ := strings.Cut(rightLines()[op], fmt.Sprint(right.Of))
		for number := range 200 {
			wantLine(t, changed(right, func(e *impl.Event) { e.Of = number }), word+fmt.Sprint(number)+rest)
		}
		for _, number := range append([]int{200, 201, 1000, 1 << 32}, farNumbers...) {
			wantNoLine(t, changed(right, func(e *impl.Event) { e.Of = number }))
		}
	}
}

// tellableTexts may stand in a line, all of them.
func tellableTexts() []string {
	return []string{
		"", "x", strings.Repeat("x", 199), strings.Repeat("x", 200), strings.Repeat(" ", 200), strings.Repeat("\xff", 200), strings.Repeat("\u00e4", 100),
		":", ": ", " :", "::", "a: b", "a:b: c", ": a", "a: ", "order 0 to ann: pass 0 1 on sight",
		" ", " a", "a ", "  a  ", "\t", "\r", "a\r", "\x00", "\xff\xfe", "\xe2\x80\xa8", "\x0b\x0c\x85", "what", "0", "repeat 1 bob: x",
	}
}

func TestTextOfALine(t *testing.T) {
	for _, text := range tellableTexts() {
		wantLine(t, repeated(199, "ann", text), "repeat 199 ann: "+text)
	}
	for _, n := range []int{201, 202, 256, 456, 100000} {
		wantNoLine(t, repeated(1, "ann", strings.Repeat("x", n)))
	}
	// Bytes are counted, not letters.
	wantNoLine(t, repeated(1, "ann", strings.Repeat("\u00e4", 101)))
	for _, text := range []string{"\n", "a\nb", "\na", "a\n", "a\r\n", strings.Repeat("x", 199) + "\n", "\n" + strings.Repeat("x", 199), "\n\n"} {
		wantNoLine(t, repeated(1, "ann", text))
	}
}

func TestALineOfAnEventWithAFieldThatItsRowDoesNotName(t *testing.T) {
	for _, e := range overfilledEvents() {
		wantNoLine(t, e)
	}
}

func TestALineIsNewMemory(t *testing.T) {
	holder, holderMemory := lent("ann")
	text, textMemory := lent("order 0 to ann: pass 0 1")
	events := []impl.Event{wrote(holder, impl.KPass, 0, 1), repeated(0, holder, text), repeated(0, holder, ""), gaveBack(0, holder)}
	var told []string
	for _, e := range events {
		told = append(told, impl.Line(e))
	}
	if string(holderMemory) != "ann" || string(textMemory) != "order 0 to ann: pass 0 1" {
		t.Error("Line wrote into a text of its argument")
	}
	spoil(holderMemory)
	spoil(textMemory)
	events[0].Sections[0] = 1
	for i, want := range []string{"write ann pass 0 1", "repeat 0 ann: order 0 to ann: pass 0 1", "repeat 0 ann: ", "back 0 ann"} {
		if told[i] != want {
			t.Errorf("the line %q became %q with its argument", want, told[i])
		}
	}
}
