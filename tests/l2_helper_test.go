package tests

import (
	"cmp"
	"runtime"
	"slices"
	"testing"
	"unsafe"

	"loop.example/handsignal/impl"
)

func wrote(holder string, kind int, sections ...int) impl.Event {
	return impl.Event{Op: impl.EWrite, Holder: holder, Kind: kind, Sections: sections}
}

func of(op, number int) impl.Event {
	return impl.Event{Op: op, Of: number}
}

func repeated(number int, holder, text string) impl.Event {
	return impl.Event{Op: impl.ERepeat, Of: number, Holder: holder, Text: text}
}

func gaveBack(number int, holder string) impl.Event {
	return impl.Event{Op: impl.EBack, Of: number, Holder: holder}
}

// rightEvents has an event of each row of the table, by its Op, that can be told of plainBook.
func rightEvents() map[int]impl.Event {
	return map[int]impl.Event{
		impl.EWrite:  wrote("gert", impl.KWork, 0, 9),
		impl.EGive:   of(impl.EGive, 0),
		impl.ERepeat: repeated(1, "bert", "order 1 to bert: pass 2 3 10 on sight"),
		impl.EBack:   gaveBack(2, "cora"),
		impl.ECancel: of(impl.ECancel, 1),
		impl.ELock:   of(impl.ELock, 9),
		impl.EUnlock: of(impl.EUnlock, 6),
		impl.EOcc:    of(impl.EOcc, 3),
		impl.EFree:   of(impl.EFree, 5),
	}
}

func changed(e impl.Event, change func(e *impl.Event)) impl.Event {
	e.Sections = slices.Clone(e.Sections)
	change(&e)
	return e
}

func withBook(b impl.Book, change func(b *impl.Book)) impl.Book {
	b = copyOf(b)
	change(&b)
	return b
}

func withState(b impl.Book, number, state int) impl.Book {
	return withBook(b, func(b *impl.Book) { b.Orders[number].State = state })
}

func sameEvent(x, y impl.Event) bool {
	return x.Op == y.Op && x.Of == y.Of && x.Holder == y.Holder && x.Kind == y.Kind && x.Text == y.Text && slices.Equal(x.Sections, y.Sections)
}

func copyOfEvents(events []impl.Event) []impl.Event {
	c := slices.Clone(events)
	for i, e := range c {
		c[i].Sections = slices.Clone(e.Sections)
	}
	return c
}

// wantDone asks for the code and the book, and that the argument stays as it is and shares nothing with the answer.
func wantDone(t *testing.T, b impl.Book, e impl.Event, code int, want impl.Book) {
	t.Helper()
	book, event := copyOf(b), copyOfEvents([]impl.Event{e})[0]
	got := impl.Do(b, e)
	if got.Code != code || !sameBook(got.Book, want) {
		t.Errorf("Do(%v, %+v) = %v, want code %d and %v", b, e, got, code, want)
	}
	if !sameBook(b, book) || !sameEvent(e, event) {
		t.Errorf("Do(%v, %+v) wrote into its argument: %v, %+v", book, event, b, e)
	}
	wantApart(t, []impl.Book{b}, []impl.Event{e}, got.Book)
}

// wantNotDone asks for a code and the book as it was.
func wantNotDone(t *testing.T, b impl.Book, e impl.Event, code int) {
	t.Helper()
	wantDone(t, b, e, code, b)
}

// wantNone asks that the event is none of the book.
func wantNone(t *testing.T, b impl.Book, e impl.Event) {
	t.Helper()
	if impl.EventOk(b, e) {
		t.Errorf("EventOk(%v, %+v) = true", b, e)
	}
	wantDone(t, b, e, 1, impl.Book{})
}

// codes is the codes of a run, and the book behind it.
func codes(done []impl.Done) []int {
	var list []int
	for _, d := range done {
		list = append(list, d.Code)
	}
	return list
}

func wantCodes(t *testing.T, done []impl.Done, want ...int) {
	t.Helper()
	if got := codes(done); !slices.Equal(got, want) {
		t.Fatalf("codes of the run: %v, want %v", got, want)
	}
}

func last(done []impl.Done) impl.Book {
	return done[len(done)-1].Book
}

type span struct{ from, to uintptr }

func spanOf[T any](list []T) []span {
	if cap(list) == 0 {
		return nil
	}
	from := uintptr(unsafe.Pointer(unsafe.SliceData(list)))
	return []span{{from, from + uintptr(cap(list))*unsafe.Sizeof(list[:1][0])}}
}

func spansOf(b impl.Book) []span {
	spans := slices.Concat(spanOf(b.Locked), spanOf(b.Occ), spanOf(b.Orders))
	for _, o := range b.Orders {
		spans = append(spans, spanOf(o.Sections)...)
	}
	return spans
}

func meet(x, y span) bool {
	return x.from < y.to && y.from < x.to
}

// wantApart asks that no list of the answers shares memory with another one, or with a list of an argument; room behind a list counts with it.
func wantApart(t *testing.T, givenBooks []impl.Book, givenEvents []impl.Event, answers ...impl.Book) {
	t.Helper()
	var given, answered []span
	for _, b := range givenBooks {
		given = append(given, spansOf(b)...)
	}
	for _, e := range givenEvents {
		given = append(given, spanOf(e.Sections)...)
	}
	for _, b := range answers {
		answered = append(answered, spansOf(b)...)
	}
	slices.SortFunc(answered, func(x, y span) int { return cmp.Compare(x.from, y.from) })
	for i, x := range answered {
		if i > 0 && meet(answered[i-1], x) {
			t.Error("two lists of the answer share memory")
			return
		}
	}
	for _, x := range given {
		i, _ := slices.BinarySearchFunc(answered, x, func(y, x span) int { return cmp.Compare(y.to, x.from+1) })
		if i < len(answered) && meet(answered[i], x) {
			t.Error("a list of the answer shares memory with an argument")
			return
		}
	}
	runtime.KeepAlive(givenBooks)
	runtime.KeepAlive(givenEvents)
	runtime.KeepAlive(answers)
}
