package tests

import (
	"slices"
	"strings"
	"testing"

	"loop.example/handsignal/impl"
)

// farNumbers are no number of anything: a wrong sum in a range check would show at them.
var farNumbers = []int{-1 << 63, -1<<63 + 1, -1 << 31, -201, -61, -1, 1 << 31, 1<<63 - 2, 1<<63 - 1}

func order(holder string, kind, state int, sections ...int) impl.Order {
	return impl.Order{Holder: holder, Kind: kind, Sections: sections, State: state}
}

func bookWith(sections int, orders ...impl.Order) impl.Book {
	b := impl.Begin(sections)
	b.Orders = orders
	return b
}

// plainBook has an order of each state, and somebody and a lock where an order that is not open may have them.
func plainBook() impl.Book {
	b := bookWith(12,
		order("anna", impl.KPass, impl.OWritten, 0, 1, 2),
		order("bert", impl.KPass, impl.OGiven, 2, 3, 10),
		order("cora", impl.KWork, impl.OHeld, 4, 5),
		order("dirk", impl.KPass, impl.OBack, 4, 5, 6),
		order("emil", impl.KWork, impl.OVoid, 6, 7, 11),
		order("fred", impl.KPass, impl.OHeld, 8),
	)
	b.Locked[6], b.Locked[11] = true, true
	b.Occ[1], b.Occ[5], b.Occ[10] = true, true, true
	return b
}

func numbers(from, to int) []int {
	var list []int
	for n := from; n < to; n++ {
		list = append(list, n)
	}
	return list
}

func manyOrders(n int) []impl.Order {
	orders := make([]impl.Order, n)
	for i := range orders {
		orders[i] = order("anna", impl.KPass, impl.OWritten, 0)
	}
	return orders
}

func copyOf(b impl.Book) impl.Book {
	c := impl.Book{Sections: b.Sections, Locked: slices.Clone(b.Locked), Occ: slices.Clone(b.Occ), Orders: slices.Clone(b.Orders)}
	for i, o := range c.Orders {
		c.Orders[i].Sections = slices.Clone(o.Sections)
	}
	return c
}

func sameOrder(x, y impl.Order) bool {
	return x.Holder == y.Holder && x.Kind == y.Kind && x.State == y.State && slices.Equal(x.Sections, y.Sections)
}

func sameBook(x, y impl.Book) bool {
	return x.Sections == y.Sections && slices.Equal(x.Locked, y.Locked) && slices.Equal(x.Occ, y.Occ) && slices.EqualFunc(x.Orders, y.Orders, sameOrder)
}

// wrongBooks has a book for each way of not being right, by the code that is asked.
func wrongBooks() map[string]struct {
	book impl.Book
	code int
} {
	type wrong = struct {
		book impl.Book
		code int
	}
	spoilt := func(code int, spoil func(b *impl.Book)) wrong {
		b := plainBook()
		spoil(&b)
		return wrong{b, code}
	}
	return map[string]wrong{
		"the zero value":          {impl.Book{}, 1},
		"no sections":             spoilt(1, func(b *impl.Book) { b.Sections, b.Locked, b.Occ, b.Orders = 0, nil, nil, nil }),
		"negative sections":       spoilt(1, func(b *impl.Book) { b.Sections = -12 }),
		"least sections":          spoilt(1, func(b *impl.Book) { b.Sections = -1 << 63 }),
		"greatest sections":       spoilt(1, func(b *impl.Book) { b.Sections = 1<<63 - 1 }),
		"61 sections":             spoilt(1, func(b *impl.Book) { b.Sections, b.Locked, b.Occ = 61, make([]bool, 61), make([]bool, 61) }),
		"one section less":        spoilt(1, func(b *impl.Book) { b.Sections-- }),
		"one section more":        spoilt(1, func(b *impl.Book) { b.Sections++ }),
		"a Locked too few":        spoilt(1, func(b *impl.Book) { b.Locked = b.Locked[:11] }),
		"a Locked too many":       spoilt(1, func(b *impl.Book) { b.Locked = append(b.Locked, false) }),
		"no Locked":               spoilt(1, func(b *impl.Book) { b.Locked = nil }),
		"an Occ too few":          spoilt(1, func(b *impl.Book) { b.Occ = b.Occ[:11] }),
		"an Occ too many":         spoilt(1, func(b *impl.Book) { b.Occ = append(b.Occ, false) }),
		"no Occ":                  spoilt(1, func(b *impl.Book) { b.Occ = nil }),
		"201 orders":              spoilt(1, func(b *impl.Book) { b.Orders = manyOrders(201) }),
		"no holder":               spoilt(2, func(b *impl.Book) { b.Orders[0].Holder = "" }),
		"a holder of 21":          spoilt(2, func(b *impl.Book) { b.Orders[0].Holder = strings.Repeat("a", 21) }),
		"a great letter":          spoilt(2, func(b *impl.Book) { b.Orders[0].Holder = "annA" }),
		"a digit":                 spoilt(2, func(b *impl.Book) { b.Orders[0].Holder = "ann4" }),
		"a blank":                 spoilt(2, func(b *impl.Book) { b.Orders[0].Holder = "an na" }),
		"the byte ahead of a":     spoilt(2, func(b *impl.Book) { b.Orders[0].Holder = "a`" }),
		"the byte behind z":       spoilt(2, func(b *impl.Book) { b.Orders[0].Holder = "z{" }),
		"a newline":               spoilt(2, func(b *impl.Book) { b.Orders[0].Holder = "anna\n" }),
		"a zero byte":             spoilt(2, func(b *impl.Book) { b.Orders[0].Holder = "\x00" }),
		"a letter of two bytes":   spoilt(2, func(b *impl.Book) { b.Orders[0].Holder = "\xc3\xa4nna" }),
		"a byte of no letter":     spoilt(2, func(b *impl.Book) { b.Orders[0].Holder = "ann\xff" }),
		"kind 0":                  spoilt(2, func(b *impl.Book) { b.Orders[3].Kind = 0 }),
		"kind 3":                  spoilt(2, func(b *impl.Book) { b.Orders[3].Kind = 3 }),
		"kind -1":                 spoilt(2, func(b *impl.Book) { b.Orders[3].Kind = -1 }),
		"state 0":                 spoilt(2, func(b *impl.Book) { b.Orders[3].State = 0 }),
		"state 6":                 spoilt(2, func(b *impl.Book) { b.Orders[3].State = 6 }),
		"state -2":                spoilt(2, func(b *impl.Book) { b.Orders[3].State = -2 }),
		"no list":                 spoilt(2, func(b *impl.Book) { b.Orders[4].Sections = nil }),
		"an empty list":           spoilt(2, func(b *impl.Book) { b.Orders[4].Sections = []int{} }),
		"a list of 21":            {bookWith(60, order("anna", impl.KPass, impl.OVoid, numbers(0, 21)...)), 2},
		"descending":              spoilt(2, func(b *impl.Book) { b.Orders[4].Sections = []int{7, 6} }),
		"descending at the end":   spoilt(2, func(b *impl.Book) { b.Orders[4].Sections = []int{3, 7, 6} }),
		"a section twice":         spoilt(2, func(b *impl.Book) { b.Orders[4].Sections = []int{6, 6} }),
		"section 0 twice":         spoilt(2, func(b *impl.Book) { b.Orders[4].Sections = []int{0, 0} }),
		"a negative section":      spoilt(2, func(b *impl.Book) { b.Orders[4].Sections = []int{-1, 6} }),
		"the least section":       spoilt(2, func(b *impl.Book) { b.Orders[4].Sections = []int{-1 << 63} }),
		"a section too far":       spoilt(2, func(b *impl.Book) { b.Orders[4].Sections = []int{6, 12} }),
		"the greatest section":    spoilt(2, func(b *impl.Book) { b.Orders[4].Sections = []int{1<<63 - 1} }),
		"an order of nothing":     spoilt(2, func(b *impl.Book) { b.Orders[5] = impl.Order{} }),
		"given beside given":      {bookWith(3, order("a", 1, impl.OGiven, 0, 1), order("b", 1, impl.OGiven, 1, 2)), 3},
		"given beside held":       {bookWith(3, order("a", 1, impl.OGiven, 0, 2), order("b", 2, impl.OHeld, 2)), 3},
		"held beside given":       {bookWith(3, order("a", 2, impl.OHeld, 0), order("b", 1, impl.OGiven, 0, 1, 2)), 3},
		"held beside held":        {bookWith(3, order("a", 2, impl.OHeld, 1), order("b", 2, impl.OHeld, 1)), 3},
		"both of the same holder": {bookWith(3, order("a", 2, impl.OHeld, 1), order("a", 2, impl.OHeld, 1)), 3},
		"the first and the last":  spoilt(3, func(b *impl.Book) { b.Orders[0].State, b.Orders[5].Sections = impl.OGiven, []int{0} }),
		"a given one locked":      spoilt(4, func(b *impl.Book) { b.Locked[2] = true }),
		"a given one's last":      spoilt(4, func(b *impl.Book) { b.Locked[10] = true }),
		"a held one locked":       spoilt(4, func(b *impl.Book) { b.Locked[8] = true }),
		"a held one to work":      spoilt(4, func(b *impl.Book) { b.Locked[4] = true }),
	}
}

func wantText(t *testing.T, b impl.Book, number int, want string) {
	t.Helper()
	if got := impl.OrderText(b, number); got != want {
		t.Errorf("OrderText(%v, %d) = %q, want %q", b, number, got, want)
	}
}

func wantOpen(t *testing.T, b impl.Book, want ...int) {
	t.Helper()
	if got := impl.Open(b); !slices.Equal(got, want) {
		t.Errorf("Open(%v) = %v, want %v", b, got, want)
	}
}

func wantWho(t *testing.T, b impl.Book, section, want int) {
	t.Helper()
	if got := impl.Who(b, section); got != want {
		t.Errorf("Who(%v, %d) = %d, want %d", b, section, got, want)
	}
}

func wantCode(t *testing.T, b impl.Book, want int) {
	t.Helper()
	if got := impl.BookOk(b); got != want {
		t.Errorf("BookOk(%v) = %d, want %d", b, got, want)
	}
}
