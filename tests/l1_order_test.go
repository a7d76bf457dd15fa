package tests

import (
	"slices"
	"strconv"
	"strings"
	"testing"

	"loop.example/handsignal/impl"
)

func TestNumbersOfTheDocument(t *testing.T) {
	got := []int{impl.MaxSections, impl.MaxOrders, impl.MaxList, impl.MaxName, impl.KPass, impl.KWork, impl.OWritten, impl.OGiven, impl.OHeld, impl.OBack, impl.OVoid}
	if want := []int{60, 200, 20, 20, 1, 2, 1, 2, 3, 4, 5}; !slices.Equal(got, want) {
		t.Errorf("constants are %v, want %v", got, want)
	}
}

func TestBegin(t *testing.T) {
	for n := 1; n <= 60; n++ {
		want := impl.Book{Sections: n, Locked: make([]bool, n), Occ: make([]bool, n)}
		got := impl.Begin(n)
		if !sameBook(got, want) {
			t.Errorf("Begin(%d) = %v", n, got)
		}
		wantCode(t, got, 0)
		wantOpen(t, got)
		wantWho(t, got, 0, -1)
	}
	for _, n := range append([]int{0, 61, 62, 1000}, farNumbers...) {
		if got := impl.Begin(n); !sameBook(got, impl.Book{}) {
			t.Errorf("Begin(%d) = %v, want the zero value", n, got)
		}
	}
}

func TestBeginSharesNothing(t *testing.T) {
	first, second := impl.Begin(7), impl.Begin(7)
	first.Locked[0], first.Occ[6] = true, true
	if first.Occ[0] || first.Locked[6] || !sameBook(second, impl.Begin(7)) {
		t.Error("a change of one list of a book shows in another")
	}
	third := impl.Begin(7)
	_, _ = append(third.Locked, true, true), append(third.Occ, true, true)
	if !sameBook(third, impl.Begin(7)) {
		t.Error("a list of a book goes over into its other one")
	}
}

func TestBookOkOfRightBooks(t *testing.T) {
	wantCode(t, plainBook(), 0)
	wantCode(t, bookWith(1), 0)
	wantCode(t, bookWith(60), 0)
	wantCode(t, bookWith(1, order("a", impl.KWork, impl.OHeld, 0)), 0)
	wantCode(t, bookWith(60, order("z", impl.KPass, impl.OGiven, 59)), 0)
	wantCode(t, bookWith(5, manyOrders(200)...), 0)
	wantCode(t, bookWith(5, order(strings.Repeat("z", 20), impl.KPass, impl.OGiven, 4)), 0)
	wantCode(t, bookWith(5, order("abcdefghijklmnopqrst", impl.KPass, impl.OGiven, 4)), 0)
	wantCode(t, bookWith(5, order("uvwxyz", impl.KPass, impl.OGiven, 4)), 0)
	wantCode(t, bookWith(20, order("a", impl.KPass, impl.OGiven, numbers(0, 20)...)), 0)
	wantCode(t, bookWith(60, order("a", impl.KPass, impl.OGiven, numbers(0, 20)...), order("b", impl.KPass, impl.OHeld, numbers(20, 40)...), order("a", impl.KWork, impl.OHeld, numbers(40, 60)...)), 0)
}

func TestBookOkOfListsFullOfRoom(t *testing.T) {
	b := bookWith(5, order("a", impl.KPass, impl.OGiven, 4))
	b.Locked = make([]bool, 5, 100)
	b.Occ = make([]bool, 5, 7)
	b.Orders = append(make([]impl.Order, 0, 500), b.Orders...)
	b.Orders[0].Sections = append(make([]int, 0, 30), 4)
	wantCode(t, b, 0)
	empty := impl.Begin(5)
	empty.Orders = []impl.Order{}
	wantCode(t, empty, 0)
}

func TestEachStateAndKindIsRight(t *testing.T) {
	for state := 1; state <= 5; state++ {
		for kind := 1; kind <= 2; kind++ {
			wantCode(t, bookWith(3, order("anna", kind, state, 0, 2)), 0)
		}
	}
}

func TestBookOkCodes(t *testing.T) {
	for name, c := range wrongBooks() {
		if got := impl.BookOk(c.book); got != c.code {
			t.Errorf("%s: BookOk = %d, want %d", name, got, c.code)
		}
	}
}

func TestEachOrderOfABookIsAsked(t *testing.T) {
	for i := range 200 {
		b := bookWith(5, manyOrders(200)...)
		b.Orders[i].Kind = 0
		wantCode(t, b, 2)
	}
}

func TestEachLockIsAsked(t *testing.T) {
	for i := range 60 {
		b := bookWith(60, order("a", impl.KPass, impl.OHeld, i))
		b.Locked[i] = true
		wantCode(t, b, 4)
		b.Orders[0].Sections = []int{(i + 1) % 60}
		wantCode(t, b, 0)
	}
}

// broken puts the faults of the codes that are asked into one book.
func broken(codes []int) impl.Book {
	b := plainBook()
	for _, code := range codes {
		switch code {
		case 1:
			b.Occ = b.Occ[:11]
		case 2:
			b.Orders[5].Holder = "Fred"
		case 3:
			b.Orders[0].State = impl.OHeld
		case 4:
			b.Locked[4] = true
		}
	}
	return b
}

func TestBookOkFirstCode(t *testing.T) {
	for set := 1; set < 16; set++ {
		var codes []int
		for code := 1; code <= 4; code++ {
			if set>>(code-1)&1 == 1 {
				codes = append(codes, code)
			}
		}
		wantCode(t, broken(codes), codes[0])
	}
}

func TestBookOkFirstCodeWhereTheLaterFaultComesAhead(t *testing.T) {
	b := bookWith(4, order("a", 1, impl.OGiven, 0), order("b", 1, impl.OGiven, 3), order("c", 1, impl.OGiven, 3))
	b.Locked[0] = true
	wantCode(t, b, 3)
	b.Orders = append(b.Orders, order("D", 1, impl.OVoid, 1))
	wantCode(t, b, 2)
	b.Orders = append(b.Orders, manyOrders(197)...)
	wantCode(t, b, 1)
	b.Orders = b.Orders[:200]
	wantCode(t, b, 2)
}

func TestOrdersThatAreNotOpenBarNothing(t *testing.T) {
	for _, state := range []int{impl.OWritten, impl.OBack, impl.OVoid} {
		for _, open := range []int{impl.OGiven, impl.OHeld} {
			b := bookWith(4, order("a", impl.KPass, state, 0, 1, 2), order("b", impl.KWork, open, 1, 2), order("c", impl.KWork, state, 2, 3))
			b.Locked[0], b.Locked[3] = true, true
			wantCode(t, b, 0)
			wantOpen(t, b, 1)
			for section, want := range []int{-1, 1, 1, -1} {
				wantWho(t, b, section, want)
			}
		}
		b := bookWith(2, order("a", impl.KPass, state, 0), order("b", impl.KWork, state, 0))
		b.Locked[0] = true
		wantCode(t, b, 0)
		wantOpen(t, b)
		wantWho(t, b, 0, -1)
	}
}

func TestSomebodyThereIsNoFault(t *testing.T) {
	b := bookWith(2, order("a", impl.KPass, impl.OHeld, 0), order("b", impl.KWork, impl.OHeld, 1))
	b.Occ[0], b.Occ[1] = true, true
	wantCode(t, b, 0)
}

func TestOrderText(t *testing.T) {
	want := []string{
		"order 0 to anna: pass 0 1 2 on sight",
		"order 1 to bert: pass 2 3 10 on sight",
		"order 2 to cora: work on 4 5",
		"order 3 to dirk: pass 4 5 6 on sight",
		"order 4 to emil: work on 6 7 11",
		"order 5 to fred: pass 8",
	}
	for number, text := range want {
		wantText(t, plainBook(), number, text)
	}
}

func TestOnSight(t *testing.T) {
	for _, state := range numbers(1, 6) {
		for who := range 32 {
			b := bookWith(5, order("a", impl.KPass, state, 0, 2, 4), order("b", impl.KWork, impl.OWritten, 0, 2, 4))
			for section := range b.Occ {
				b.Occ[section] = who>>section&1 == 1
			}
			text := "order 0 to a: pass 0 2 4"
			if who&0b10101 != 0 {
				text += " on sight"
			}
			wantText(t, b, 0, text)
			wantText(t, b, 1, "order 1 to b: work on 0 2 4")
		}
	}
}

func TestALockIsNotOnSight(t *testing.T) {
	b := bookWith(2, order("a", impl.KPass, impl.OWritten, 0, 1))
	b.Locked[0] = true
	wantText(t, b, 0, "order 0 to a: pass 0 1")
}

func TestLongOrderText(t *testing.T) {
	b := bookWith(60, manyOrders(200)...)
	b.Orders[199] = order("abcdefghijklmnopqrst", impl.KWork, impl.OWritten, numbers(40, 60)...)
	wantText(t, b, 199, "order 199 to abcdefghijklmnopqrst: work on 40 41 42 43 44 45 46 47 48 49 50 51 52 53 54 55 56 57 58 59")
	for number := range 199 {
		wantText(t, b, number, "order "+strconv.Itoa(number)+" to anna: pass 0")
	}
	wantText(t, b, 200, "")
}

func TestNoSuchOrder(t *testing.T) {
	for _, number := range append([]int{6, 7, 200, 201}, farNumbers...) {
		wantText(t, plainBook(), number, "")
	}
	wantText(t, impl.Begin(5), 0, "")
}

func TestOpen(t *testing.T) {
	wantOpen(t, plainBook(), 1, 2, 5)
	b := bookWith(60, manyOrders(200)...)
	wantOpen(t, b)
	var want []int
	for i := range 60 {
		b.Orders[199-3*i] = order("b", impl.KWork, impl.OGiven+i%2, i)
		want = append(want, 199-3*i)
	}
	slices.Sort(want)
	wantOpen(t, b, want...)
	for i := range 60 {
		wantWho(t, b, i, 199-3*i)
	}
}

func TestOpenIsNewMemory(t *testing.T) {
	b := plainBook()
	got := impl.Open(b)
	got[0] = 77
	if !sameBook(b, plainBook()) {
		t.Error("a change of the answer shows in the book")
	}
	wantOpen(t, b, 1, 2, 5)
}

func TestWho(t *testing.T) {
	for section, want := range []int{-1, -1, 1, 1, 2, 2, -1, -1, 5, -1, 1, -1} {
		wantWho(t, plainBook(), section, want)
	}
	wantWho(t, bookWith(1, order("a", impl.KPass, impl.OGiven, 0)), 0, 0)
}

func TestNoSuchSection(t *testing.T) {
	for _, section := range append([]int{12, 13, 60, 61}, farNumbers...) {
		wantWho(t, plainBook(), section, -1)
	}
}

func TestBooksThatAreNotRight(t *testing.T) {
	for name, c := range wrongBooks() {
		for n := -2; n < 14; n++ {
			if got := impl.OrderText(c.book, n); got != "" {
				t.Errorf("%s: OrderText of %d = %q", name, n, got)
			}
			if got := impl.Who(c.book, n); got != -1 {
				t.Errorf("%s: Who of %d = %d", name, n, got)
			}
		}
		if got := impl.Open(c.book); len(got) != 0 {
			t.Errorf("%s: Open = %v", name, got)
		}
		for _, n := range farNumbers {
			wantText(t, c.book, n, "")
			wantWho(t, c.book, n, -1)
		}
	}
}

func TestNothingIsWrittenIntoABook(t *testing.T) {
	books := []impl.Book{plainBook(), impl.Begin(60)}
	for _, c := range wrongBooks() {
		books = append(books, c.book)
	}
	for _, b := range books {
		before := copyOf(b)
		for range 2 {
			impl.BookOk(b)
			impl.Open(b)
			for n := -1; n < 13; n++ {
				impl.OrderText(b, n)
				impl.Who(b, n)
			}
			if !sameBook(b, before) {
				t.Fatalf("%v became %v", before, b)
			}
		}
	}
}
