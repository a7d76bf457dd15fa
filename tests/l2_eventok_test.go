package tests

import (
	"slices"
	"strings"
	"testing"

	"loop.example/handsignal/impl"
)

func TestNumbersOfTheEvents(t *testing.T) {
	got := []int{impl.MaxEvents, impl.EWrite, impl.EGive, impl.ERepeat, impl.EBack, impl.ECancel, impl.ELock, impl.EUnlock, impl.EOcc, impl.EFree}
	if want := []int{1000, 1, 2, 3, 4, 5, 6, 7, 8, 9}; !slices.Equal(got, want) {
		t.Errorf("constants are %v, want %v", got, want)
	}
}

func wantEvent(t *testing.T, b impl.Book, e impl.Event) {
	t.Helper()
	if !impl.EventOk(b, e) {
		t.Errorf("EventOk(%v, %+v) = false", b, e)
	}
	if got := impl.Do(b, e).Code; got == 1 {
		t.Errorf("Do(%v, %+v) has code 1", b, e)
	}
}

func TestEachRowWithItsFieldsRight(t *testing.T) {
	for op := 1; op <= 9; op++ {
		e := rightEvents()[op]
		wantEvent(t, plainBook(), e)
		wantEvent(t, plainBook(), changed(e, func(e *impl.Event) {
			if e.Sections == nil {
				e.Sections = []int{}
			}
		}))
	}
}

func TestOpsThatAreNone(t *testing.T) {
	for _, op := range append([]int{0, 10, 11, 256 + 1, 1<<32 + 1}, farNumbers...) {
		wantNone(t, plainBook(), impl.Event{Op: op})
		for _, e := range rightEvents() {
			wantNone(t, plainBook(), changed(e, func(e *impl.Event) { e.Op = op }))
		}
	}
}

func badNames() []string {
	return []string{"", " ", "A", "annA", "ann4", "an na", "a`", "z{", "anna\n", "\x00", "\xc3\xa4nna", "ann\xff", strings.Repeat("a", 21), strings.Repeat("a", 300)}
}

func goodNames() []string {
	return []string{"a", "z", "anna", "abcdefghijklmnopqrst", "uvwxyz", strings.Repeat("z", 20)}
}

func TestHolderOfAnEvent(t *testing.T) {
	for _, op := range []int{impl.EWrite, impl.ERepeat, impl.EBack} {
		for _, name := range goodNames() {
			wantEvent(t, plainBook(), changed(rightEvents()[op], func(e *impl.Event) { e.Holder = name }))
		}
		for _, name := range badNames() {
			wantNone(t, plainBook(), changed(rightEvents()[op], func(e *impl.Event) { e.Holder = name }))
		}
	}
}

func TestKindOfAnEvent(t *testing.T) {
	for _, kind := range []int{impl.KPass, impl.KWork} {
		wantEvent(t, plainBook(), wrote("anna", kind, 0))
	}
	for _, kind := range append([]int{0, 3, 4, 1<<32 + 1}, farNumbers...) {
		wantNone(t, plainBook(), wrote("anna", kind, 0))
	}
}

func TestSectionsOfAnEvent(t *testing.T) {
	for _, list := range [][]int{{0}, {11}, {0, 11}, {5, 6, 7}, numbers(0, 12)} {
		wantEvent(t, plainBook(), wrote("anna", impl.KPass, list...))
	}
	bad := [][]int{nil, {}, {12}, {0, 12}, {-1}, {-1, 0}, {1, 0}, {0, 2, 1}, {3, 3}, {0, 0}, {0, 5, 5}, numbers(0, 13), {60}}
	for _, n := range farNumbers {
		bad = append(bad, []int{n}, []int{0, n}, []int{n, 0})
	}
	for _, list := range bad {
		wantNone(t, plainBook(), wrote("anna", impl.KPass, list...))
	}
	for _, from := range []int{0, 20, 39} {
		wantEvent(t, impl.Begin(60), wrote("anna", impl.KWork, numbers(from, from+20)...))
		wantNone(t, impl.Begin(60), wrote("anna", impl.KWork, numbers(from, from+21)...))
	}
	wantEvent(t, impl.Begin(60), wrote("anna", impl.KWork, 59))
	wantNone(t, impl.Begin(60), wrote("anna", impl.KWork, 60))
	wantEvent(t, impl.Begin(1), wrote("anna", impl.KWork, 0))
	wantNone(t, impl.Begin(1), wrote("anna", impl.KWork, 1))
}

func TestOrderOfAnEvent(t *testing.T) {
	for _, op := range []int{impl.EGive, impl.ERepeat, impl.EBack, impl.ECancel} {
		right := rightEvents()[op]
		for number := range 6 {
			wantEvent(t, plainBook(), changed(right, func(e *impl.Event) { e.Of = number }))
		}
		for _, number := range append([]int{6, 7, 11, 12, 199, 200, 1 << 32}, farNumbers...) {
			wantNone(t, plainBook(), changed(right, func(e *impl.Event) { e.Of = number }))
		}
		wantNone(t, impl.Begin(12), changed(right, func(e *impl.Event) { e.Of = 0 }))
		wantEvent(t, bookWith(2, manyOrders(200)...), changed(right, func(e *impl.Event) { e.Of = 199 }))
		wantNone(t, bookWith(2, manyOrders(200)...), changed(right, func(e *impl.Event) { e.Of = 200 }))
	}
}

func TestSectionOfAnEvent(t *testing.T) {
	for _, op := range []int{impl.ELock, impl.EUnlock, impl.EOcc, impl.EFree} {
		for section := range 12 {
			wantEvent(t, plainBook(), of(op, section))
		}
		for _, section := range append([]int{12, 13, 59, 60, 1 << 32}, farNumbers...) {
			wantNone(t, plainBook(), of(op, section))
		}
		wantEvent(t, impl.Begin(60), of(op, 59))
		wantNone(t, impl.Begin(60), of(op, 60))
		wantEvent(t, impl.Begin(1), of(op, 0))
		wantNone(t, impl.Begin(1), of(op, 1))
	}
}

func TestTextOfAnEvent(t *testing.T) {
	for _, n := range []int{0, 1, 199, 200} {
		wantEvent(t, plainBook(), repeated(1, "bert", strings.Repeat("x", n)))
	}
	for _, n := range []int{201, 202, 256, 456, 100000} {
		wantNone(t, plainBook(), repeated(1, "bert", strings.Repeat("x", n)))
	}
	for _, text := range []string{"\n", "\x00", "\xff\xfe", " ", strings.Repeat("\xff", 200), strings.Repeat("\u00e4", 100)} {
		wantEvent(t, plainBook(), repeated(1, "bert", text))
	}
	// Bytes are counted, not letters.
	wantNone(t, plainBook(), repeated(1, "bert", strings.Repeat("\u00e4", 101)))
}

// The rows of the table once more: which fields each Op names.
var namedFields = map[int]string{
	impl.EWrite:  "Holder Kind Sections",
	impl.EGive:   "Of",
	impl.ERepeat: "Of Holder Text",
	impl.EBack:   "Of Holder",
	impl.ECancel: "Of",
	impl.ELock:   "Of",
	impl.EUnlock: "Of",
	impl.EOcc:    "Of",
	impl.EFree:   "Of",
}

// overfilledEvents are right but for one field that their row does not name.
func overfilledEvents() []impl.Event {
	fill := map[string][]func(e *impl.Event){
		"Of":       {func(e *impl.Event) { e.Of = 1 }, func(e *impl.Event) { e.Of = -1 }, func(e *impl.Event) { e.Of = 1 << 32 }},
		"Holder":   {func(e *impl.Event) { e.Holder = "cora" }, func(e *impl.Event) { e.Holder = "?" }, func(e *impl.Event) { e.Holder = "\x00" }},
		"Kind":     {func(e *impl.Event) { e.Kind = 1 }, func(e *impl.Event) { e.Kind = 2 }, func(e *impl.Event) { e.Kind = -1 }, func(e *impl.Event) { e.Kind = 1 << 32 }},
		"Sections": {func(e *impl.Event) { e.Sections = []int{0} }, func(e *impl.Event) { e.Sections = []int{-1} }, func(e *impl.Event) { e.Sections = numbers(0, 30) }},
		"Text":     {func(e *impl.Event) { e.Text = "x" }, func(e *impl.Event) { e.Text = "\x00" }, func(e *impl.Event) { e.Text = strings.Repeat("x", 201) }},
	}
	var events []impl.Event
	for op, named := range namedFields {
		for field, ways := range fill {
			if strings.Contains(named, field) {
				continue
			}
			for _, way := range ways {
				events = append(events, changed(rightEvents()[op], way))
			}
		}
	}
	return events
}

func TestFieldsThatARowDoesNotName(t *testing.T) {
	events := overfilledEvents()
	for _, e := range events {
		wantNone(t, plainBook(), e)
	}
	if len(events) < 9*6 {
		t.Errorf("only %d events were asked", len(events))
	}
}

func TestEventsOfBooksThatAreNotRight(t *testing.T) {
	for name, c := range wrongBooks() {
		for op, e := range rightEvents() {
			if impl.EventOk(c.book, e) {
				t.Errorf("%s: EventOk of Op %d", name, op)
			}
			wantNone(t, c.book, e)
			wantNone(t, c.book, changed(e, func(e *impl.Event) { e.Of = 0 }))
		}
		wantNone(t, c.book, impl.Event{})
		for _, n := range append([]int{5, 6, 11, 12, 199, 200}, farNumbers...) {
			for op := 2; op <= 9; op++ {
				wantNone(t, c.book, of(op, n))
			}
		}
	}
}

func TestEventOkWritesIntoNothing(t *testing.T) {
	for _, e := range rightEvents() {
		b, event := plainBook(), changed(e, func(*impl.Event) {})
		for range 2 {
			if !impl.EventOk(b, e) {
				t.Errorf("EventOk of %+v", e)
			}
		}
		if !sameBook(b, plainBook()) || !sameEvent(e, event) {
			t.Errorf("EventOk of %+v wrote into its argument", event)
		}
	}
}
