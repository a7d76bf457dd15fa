package tests

import (
	"math/rand"
	"slices"
	"testing"

	"loop.example/handsignal/impl"
)

// The model says chapter 2 once more, by the plainest means there are.

func modelName(name string) bool {
	return modelOrderOk(order(name, 1, 1, 0), 1)
}

func modelEventOk(b impl.Book, e impl.Event) bool {
	if modelBookOk(b) != 0 {
		return false
	}
	rest := e
	rest.Op = 0
	good := false
	switch e.Op {
	case 1:
		good = modelOrderOk(order(e.Holder, e.Kind, 1, e.Sections...), b.Sections)
		rest.Holder, rest.Kind, rest.Sections = "", 0, nil
	case 2, 5:
		good = e.Of >= 0 && e.Of < len(b.Orders)
		rest.Of = 0
	case 3:
		good = e.Of >= 0 && e.Of < len(b.Orders) && modelName(e.Holder) && len(e.Text) <= 200
		rest.Of, rest.Holder, rest.Text = 0, "", ""
	case 4:
		good = e.Of >= 0 && e.Of < len(b.Orders) && modelName(e.Holder)
		rest.Of, rest.Holder = 0, ""
	case 6, 7, 8, 9:
		good = e.Of >= 0 && e.Of < b.Sections
		rest.Of = 0
	}
	return good && sameEvent(rest, impl.Event{})
}

func modelGiveCode(b impl.Book, o impl.Order) int {
	code := 0
	for _, s := range o.Sections {
		if o.Kind == 2 && b.Occ[s] && code == 0 {
			code = 5
		}
		if b.Locked[s] && code != 3 {
			code = 4
		}
		if modelWho(b, s) >= 0 {
			code = 3
		}
	}
	if o.State != 1 {
		code = 2
	}
	return code
}

func modelDo(b impl.Book, e impl.Event) (int, impl.Book) {
	if !modelEventOk(b, e) {
		return 1, impl.Book{}
	}
	c := copyOf(b)
	var o *impl.Order
	if e.Op >= 2 && e.Op <= 5 {
		o = &c.Orders[e.Of]
	}
	// become is the order in a new state, where nothing was against it.
	become := func(code, state int) (int, impl.Book) {
		if code == 0 {
			o.State = state
		}
		return code, c
	}
	wrongHolder := func() int {
		if o.Holder != e.Holder {
			return 3
		}
		return 0
	}
	switch e.Op {
	case 1:
		if len(c.Orders) == 200 {
			return 2, c
		}
		c.Orders = append(c.Orders, order(e.Holder, e.Kind, 1, slices.Clone(e.Sections)...))
	case 2:
		return become(modelGiveCode(b, *o), 2)
	case 3:
		if o.State != 2 {
			return 2, c
		}
		if o.Holder == e.Holder && e.Text != modelText(b, e.Of) {
			o.State = 5
			return 4, c
		}
		return become(wrongHolder(), 3)
	case 4:
		if o.State != 3 {
			return 2, c
		}
		return become(wrongHolder(), 4)
	case 5:
		if o.State > 2 {
			return 2, c
		}
		o.State = 5
	case 6:
		if modelWho(b, e.Of) >= 0 {
			return 3, c
		}
		c.Locked[e.Of] = true
	case 7:
		c.Locked[e.Of] = false
	case 8:
		c.Occ[e.Of] = true
	case 9:
		c.Occ[e.Of] = false
	}
	return 0, c
}

func drawnHolder(r *rand.Rand, b impl.Book, number int) string {
	if number < len(b.Orders) && r.Intn(4) > 0 {
		return b.Orders[number].Holder
	}
	return []string{"a", "zz", "anna"}[r.Intn(3)]
}

func drawnText(r *rand.Rand, b impl.Book, number int) string {
	text := modelText(b, number)
	switch r.Intn(6) {
	case 0:
		return text + " on sight"
	case 1:
		off := oneLetterOff("x" + text)
		return off[r.Intn(len(off))]
	}
	return text
}

// drawnEvent is mostly one that fits the book as it is, so that orders come to every state.
func drawnEvent(r *rand.Rand, b impl.Book) impl.Event {
	e := impl.Event{Op: []int{1, 1, 2, 2, 2, 3, 3, 3, 4, 4, 5, 6, 7, 7, 8, 9, 9, 9}[r.Intn(18)]}
	switch {
	case e.Op == 1:
		o := drawnOrder(r, b.Sections)
		e.Holder, e.Kind, e.Sections = o.Holder, o.Kind, o.Sections
	case e.Op <= 5:
		e.Of = r.Intn(len(b.Orders) + 1)
	default:
		e.Of = r.Intn(b.Sections)
	}
	if e.Op == 3 || e.Op == 4 {
		e.Holder = drawnHolder(r, b, e.Of)
	}
	if e.Op == 3 {
		e.Text = drawnText(r, b, e.Of)
	}
	if r.Intn(20) == 0 {
		spoilEvent(r, &e)
	}
	return e
}

func spoilEvent(r *rand.Rand, e *impl.Event) {
	switch r.Intn(6) {
	case 0:
		e.Op = r.Intn(13) - 1
	case 1:
		e.Of = r.Intn(70) - 5
	case 2:
		e.Holder += "m"
	case 3:
		e.Kind = r.Intn(5) - 1
	case 4:
		e.Sections = append(e.Sections, r.Intn(62)-1)
	case 5:
		e.Text += "x"
	}
}

func TestDrawnEventsOfDrawnBooksAgainstTheModel(t *testing.T) {
	r := rand.New(rand.NewSource(2))
	seen := map[[2]int]int{}
	for range 30000 {
		b := drawnBook(r)
		e := drawnEvent(r, b)
		code, want := modelDo(b, e)
		seen[[2]int{e.Op, code}]++
		if got := impl.EventOk(b, e); got != (code != 1) {
			t.Errorf("EventOk(%v, %+v) = %v", b, e, got)
		}
		wantDone(t, b, e, code, want)
		if t.Failed() {
			return
		}
	}
	for _, c := range [][2]int{{1, 0}, {2, 0}, {2, 2}, {2, 3}, {2, 4}, {2, 5}, {3, 0}, {3, 2}, {3, 3}, {3, 4}, {4, 0}, {4, 2}, {4, 3}, {5, 0}, {5, 2}, {6, 0}, {6, 3}, {7, 0}, {8, 0}, {9, 0}} {
		if seen[c] < 20 {
			t.Errorf("only %d events of Op %d with code %d were drawn", seen[c], c[0], c[1])
		}
	}
}

func drawnRun(r *rand.Rand, sections, n int) []impl.Event {
	var events []impl.Event
	b := impl.Begin(sections)
	for range n {
		e := drawnEvent(r, b)
		events = append(events, e)
		if code, after := modelDo(b, e); code != 1 {
			b = after
		}
	}
	return events
}

func TestDrawnRunsAgainstTheModel(t *testing.T) {
	r := rand.New(rand.NewSource(3))
	for i := range 150 {
		sections, n := 1+r.Intn(60), 1+r.Intn(120)
		if i%25 == 0 {
			n = 1000
		}
		events := drawnRun(r, sections, n)
		book := impl.Begin(sections)
		for j, d := range wantRun(t, sections, events) {
			code, want := modelDo(book, events[j])
			if code == 1 {
				want = book
			}
			if d.Code != code || !sameBook(d.Book, want) {
				t.Fatalf("event %d, %+v of %v: %v, want code %d and %v", j, events[j], book, d, code, want)
			}
			wantOwed(t, book, events[j], d.Book)
			book = want
		}
		if t.Failed() {
			return
		}
	}
}

// wantOwed asks, without the codes, for what the layer owes to others, at the step from one book to the next.
func wantOwed(t *testing.T, b impl.Book, e impl.Event, after impl.Book) {
	t.Helper()
	owners := map[int]int{}
	for number, o := range after.Orders {
		if number >= len(b.Orders) {
			if o.State != impl.OWritten {
				t.Errorf("order %d is new and has state %d", number, o.State)
			}
		} else {
			wantOwedOfOrder(t, b, e, number, o)
		}
		if o.State != impl.OGiven && o.State != impl.OHeld {
			continue
		}
		for _, s := range o.Sections {
			if other, owned := owners[s]; owned || after.Locked[s] {
				t.Errorf("behind %+v: section %d of open order %d is locked, or of order %d too", e, s, number, other)
			}
			owners[s] = number
		}
	}
	for s := range after.Locked {
		if after.Locked[s] && !b.Locked[s] && modelWho(b, s) >= 0 {
			t.Errorf("section %d of an open order was locked", s)
		}
	}
}

func wantOwedOfOrder(t *testing.T, b impl.Book, e impl.Event, number int, o impl.Order) {
	t.Helper()
	was := b.Orders[number]
	if was.Holder != o.Holder || was.Kind != o.Kind || !slices.Equal(was.Sections, o.Sections) {
		t.Errorf("behind %+v order %d is another: %v, then %v", e, number, was, o)
	}
	if was.State == o.State {
		return
	}
	of := e.Of == number
	good := false
	switch o.State {
	case impl.OGiven:
		good = of && e.Op == impl.EGive && was.State == impl.OWritten
		for _, s := range o.Sections {
			good = good && modelWho(b, s) < 0 && !b.Locked[s] && (o.Kind == impl.KPass || !b.Occ[s])
		}
	case impl.OHeld:
		good = of && e.Op == impl.ERepeat && was.State == impl.OGiven && e.Holder == o.Holder && e.Text == modelText(b, number)
	case impl.OBack:
		good = of && e.Op == impl.EBack && was.State == impl.OHeld && e.Holder == o.Holder
	case impl.OVoid:
		good = of && (e.Op == impl.ECancel || e.Op == impl.ERepeat && e.Holder == o.Holder) && was.State < impl.OHeld
	}
	if !good {
		t.Errorf("behind %+v order %d went from %v to %v", e, number, was, o)
	}
}
