package tests

import (
	"slices"
	"testing"

	"loop.example/handsignal/impl"
)

// wantRun asks that each answer of a run is what Do answers to the book ahead of it, that all its books are right and apart, and that the events stay as they are.
func wantRun(t *testing.T, sections int, events []impl.Event) []impl.Done {
	t.Helper()
	before := copyOfEvents(events)
	got := impl.Run(sections, events)
	if len(got) != len(events) {
		t.Fatalf("Run has %d answers to %d events", len(got), len(events))
	}
	book := impl.Begin(sections)
	var books []impl.Book
	for i, d := range got {
		want := impl.Do(book, events[i])
		if want.Code == 1 {
			want.Book = book
		}
		if d.Code != want.Code || !sameBook(d.Book, want.Book) {
			t.Fatalf("event %d, %+v: %v, want %v", i, events[i], d, want)
		}
		wantCode(t, d.Book, 0)
		book = d.Book
		books = append(books, d.Book)
	}
	if !slices.EqualFunc(events, before, sameEvent) {
		t.Error("Run wrote into its events")
	}
	wantApart(t, nil, events, books...)
	return got
}

func TestARunOfNoEvents(t *testing.T) {
	for _, sections := range []int{1, 5, 60} {
		if got := impl.Run(sections, nil); len(got) != 0 {
			t.Errorf("Run(%d, nil) = %v", sections, got)
		}
		if got := impl.Run(sections, []impl.Event{}); len(got) != 0 {
			t.Errorf("Run(%d, no events) = %v", sections, got)
		}
	}
}

func TestARunOfOneEvent(t *testing.T) {
	wantCodes(t, wantRun(t, 5, []impl.Event{wrote("a", impl.KPass, 4)}), 0)
	none := wantRun(t, 5, []impl.Event{wrote("a", impl.KPass, 5)})
	wantCodes(t, none, 1)
	if !sameBook(last(none), impl.Begin(5)) {
		t.Errorf("behind an event that is none: %v", none)
	}
	wantCodes(t, wantRun(t, 1, []impl.Event{of(impl.EOcc, 0)}), 0)
	wantCodes(t, wantRun(t, 60, []impl.Event{of(impl.ELock, 59)}), 0)
}

func TestARunOverNoSections(t *testing.T) {
	for _, sections := range append([]int{0, 61, 62, 1000}, farNumbers...) {
		for _, events := range [][]impl.Event{nil, {of(impl.EOcc, 0)}, make([]impl.Event, 3), make([]impl.Event, 1001)} {
			if got := impl.Run(sections, events); len(got) != 0 {
				t.Errorf("Run(%d, ..) = %v", sections, got)
			}
		}
	}
}

func TestRunsOf1000And1001Events(t *testing.T) {
	var events []impl.Event
	for i := range 1001 {
		switch i % 4 {
		case 0:
			events = append(events, wrote("anna", impl.KPass, i%60))
		case 1:
			events = append(events, impl.Event{Op: i})
		case 2:
			events = append(events, of(impl.EOcc, i%60))
		case 3:
			events = append(events, of(impl.EGive, i/4))
		}
	}
	done := wantRun(t, 60, events[:1000])
	if got := len(last(done).Orders); got != 200 {
		t.Errorf("%d orders behind 250 writings", got)
	}
	wantRun(t, 60, events[:999])
	if got := impl.Run(60, events); len(got) != 0 {
		t.Errorf("Run of 1001 events has %d answers", len(got))
	}
	if got := impl.Run(60, make([]impl.Event, 1001)); len(got) != 0 {
		t.Errorf("Run of 1001 events that are none has %d answers", len(got))
	}
	if got := impl.Run(60, make([]impl.Event, 5000)); len(got) != 0 {
		t.Errorf("Run of 5000 events has %d answers", len(got))
	}
	for i, d := range wantRun(t, 60, make([]impl.Event, 1000)) {
		if d.Code != 1 || !sameBook(d.Book, impl.Begin(60)) {
			t.Fatalf("event %d, that is none: %v", i, d)
		}
	}
}

func TestEventsThatAreNoneInARun(t *testing.T) {
	events := []impl.Event{
		{},
		wrote("anna", impl.KPass, 0, 1),
		of(impl.EGive, 1),
		of(impl.EGive, 0),
		{Op: impl.EGive, Of: 0, Kind: 1},
		of(impl.EOcc, -1),
		of(impl.EOcc, 1),
		of(impl.ELock, 3),
		repeated(0, "anna", "order 0 to anna: pass 0 1"),
		of(impl.ELock, 0),
		gaveBack(0, "Anna"),
		gaveBack(0, "anna"),
	}
	done := wantRun(t, 3, events)
	wantCodes(t, done, 1, 0, 1, 0, 1, 1, 0, 1, 4, 0, 1, 2)
	want := bookWith(3, order("anna", impl.KPass, impl.OVoid, 0, 1))
	want.Occ[1], want.Locked[0] = true, true
	if !sameBook(last(done), want) {
		t.Errorf("behind the run: %v, want %v", last(done), want)
	}
	if !sameBook(done[0].Book, impl.Begin(3)) || len(done[2].Book.Orders) != 1 {
		t.Errorf("behind events that are none: %v, %v", done[0], done[2])
	}
}

func TestWritingTwoHundredOrdersAndOneMoreInARun(t *testing.T) {
	var events []impl.Event
	for range 202 {
		events = append(events, wrote("anna", impl.KPass, 0))
	}
	done := wantRun(t, 5, append(events, of(impl.EGive, 199), of(impl.EGive, 200)))
	for i, d := range done[:200] {
		if d.Code != 0 || len(d.Book.Orders) != i+1 {
			t.Fatalf("writing %d: code %d, %d orders", i, d.Code, len(d.Book.Orders))
		}
	}
	wantCodes(t, done[200:], 2, 2, 0, 1)
}

func TestTheBooksOfARunAreNotChangedByEachOther(t *testing.T) {
	events := []impl.Event{wrote("a", impl.KPass, 0), {}, of(impl.EGive, 7), wrote("b", impl.KPass, 1), wrote("b", impl.KPass, 1)}
	first, second := impl.Run(4, events), impl.Run(4, events)
	for i := range first {
		b := &first[i].Book
		b.Locked[3], b.Occ[2] = true, true
		b.Orders[0].Sections[0], b.Orders[0].Holder = 3, "z"
		b.Orders = append(b.Orders, order("x", 1, 1, 0))
		for j := i + 1; j < len(first); j++ {
			if !sameBook(first[j].Book, second[j].Book) {
				t.Fatalf("a change of book %d shows in book %d", i, j)
			}
		}
	}
	if !slices.Equal(events[0].Sections, []int{0}) {
		t.Error("a change of a book shows in an event")
	}
}

// The way of an order to pass over free sections, 1 to 20 of them, from the writing to the giving back.
func TestTheWayOfAnOrderToPass(t *testing.T) {
	for n := 1; n <= 20; n++ {
		for _, from := range []int{0, 17, 60 - n} {
			list := numbers(from, from+n)
			written := impl.Do(impl.Begin(60), wrote("anna", impl.KPass, list...)).Book
			text := modelText(written, 0)
			way := []impl.Event{wrote("anna", impl.KPass, list...), of(impl.EGive, 0), repeated(0, "anna", text), gaveBack(0, "anna")}
			done := wantRun(t, 60, way)
			wantCodes(t, done, 0, 0, 0, 0)
			for i, state := range []int{impl.OWritten, impl.OGiven, impl.OHeld, impl.OBack} {
				if want := bookWith(60, order("anna", impl.KPass, state, list...)); !sameBook(done[i].Book, want) {
					t.Errorf("behind event %d: %v, want %v", i, done[i].Book, want)
				}
			}
			for i := range len(text) {
				way[2].Text = text[:i] + string([]byte{text[i] ^ 1}) + text[i+1:]
				done := impl.Run(60, way)
				wantCodes(t, done, 0, 0, 4, 2)
				if want := bookWith(60, order("anna", impl.KPass, impl.OVoid, list...)); !sameBook(done[2].Book, want) || !sameBook(done[3].Book, want) {
					t.Fatalf("letter %d changed: %v", i, done[2:])
				}
			}
		}
	}
}

func TestTheWayOfAnOrderToPassOnSight(t *testing.T) {
	way := []impl.Event{of(impl.EOcc, 2), wrote("anna", impl.KPass, 1, 2), of(impl.EGive, 0), repeated(0, "anna", "order 0 to anna: pass 1 2 on sight"), of(impl.EFree, 2), gaveBack(0, "anna")}
	wantCodes(t, wantRun(t, 5, way), 0, 0, 0, 0, 0, 0)
	way[3].Text = "order 0 to anna: pass 1 2"
	wantCodes(t, wantRun(t, 5, way), 0, 0, 0, 4, 0, 2)
}

func TestSomebodyComesOrLeavesBetweenGivingAndRepeating(t *testing.T) {
	plain, sight := "order 0 to anna: pass 1 2", "order 0 to anna: pass 1 2 on sight"
	for _, c := range []struct {
		ahead, between []impl.Event
		right, wrong   string
	}{
		{nil, nil, plain, sight},
		{nil, []impl.Event{of(impl.EOcc, 1)}, sight, plain},
		{nil, []impl.Event{of(impl.EOcc, 2)}, sight, plain},
		{nil, []impl.Event{of(impl.EOcc, 0), of(impl.EOcc, 3)}, plain, sight},
		{nil, []impl.Event{of(impl.EOcc, 1), of(impl.EFree, 1)}, plain, sight},
		{[]impl.Event{of(impl.EOcc, 1)}, nil, sight, plain},
		{[]impl.Event{of(impl.EOcc, 1)}, []impl.Event{of(impl.EFree, 1)}, plain, sight},
		{[]impl.Event{of(impl.EOcc, 1), of(impl.EOcc, 2)}, []impl.Event{of(impl.EFree, 1)}, sight, plain},
		{[]impl.Event{of(impl.EOcc, 1)}, []impl.Event{of(impl.EFree, 2)}, sight, plain},
	} {
		given := slices.Concat(c.ahead, []impl.Event{wrote("anna", impl.KPass, 1, 2), of(impl.EGive, 0)}, c.between)
		right := wantRun(t, 4, append(slices.Clone(given), repeated(0, "anna", c.right)))
		if d := right[len(given)]; d.Code != 0 || d.Book.Orders[0].State != impl.OHeld {
			t.Errorf("%q behind %+v: %v", c.right, given, d)
		}
		wrong := wantRun(t, 4, append(slices.Clone(given), repeated(0, "anna", c.wrong)))
		if d := wrong[len(given)]; d.Code != 4 || d.Book.Orders[0].State != impl.OVoid {
			t.Errorf("%q behind %+v: %v", c.wrong, given, d)
		}
	}
}

func TestMenAndTheFrame(t *testing.T) {
	done := wantRun(t, 3, []impl.Event{
		wrote("men", impl.KWork, 0, 1),
		of(impl.EOcc, 1),
		of(impl.EGive, 0),
		of(impl.EFree, 1),
		of(impl.ELock, 0),
		of(impl.EGive, 0),
		of(impl.EUnlock, 0),
		of(impl.EGive, 0),
		of(impl.ELock, 1),
		repeated(0, "men", "order 0 to men: work on 0 1"),
		of(impl.EOcc, 0),
		of(impl.ELock, 0),
		of(impl.ELock, 2),
		of(impl.ECancel, 0),
		gaveBack(0, "man"),
		gaveBack(0, "men"),
		of(impl.ELock, 0),
	})
	wantCodes(t, done, 0, 0, 5, 0, 0, 4, 0, 0, 3, 0, 0, 3, 0, 2, 3, 0, 0)
}
