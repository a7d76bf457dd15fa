package tests

import (
	"slices"
	"strings"
	"testing"

	"loop.example/handsignal/impl"
)

var allStates = []int{impl.OWritten, impl.OGiven, impl.OHeld, impl.OBack, impl.OVoid}

func TestWriting(t *testing.T) {
	b := plainBook()
	for _, kind := range []int{impl.KPass, impl.KWork} {
		for _, list := range [][]int{{9}, {0, 1, 2}, {4, 5}, {6}, numbers(0, 12)} {
			want := withBook(b, func(b *impl.Book) {
				b.Orders = append(b.Orders, order("gert", kind, impl.OWritten, list...))
			})
			wantDone(t, b, wrote("gert", kind, list...), 0, want)
		}
	}
	wantDone(t, impl.Begin(3), wrote("a", impl.KWork, 2), 0, bookWith(3, order("a", impl.KWork, impl.OWritten, 2)))
}

func TestWritingTheSameTwice(t *testing.T) {
	b := impl.Do(impl.Begin(3), wrote("a", impl.KWork, 2)).Book
	o := order("a", impl.KWork, impl.OWritten, 2)
	wantDone(t, b, wrote("a", impl.KWork, 2), 0, bookWith(3, o, o))
}

func TestTwoHundredOrdersAndOneMore(t *testing.T) {
	o := order("gert", impl.KPass, impl.OWritten, 1)
	for _, n := range []int{0, 1, 198, 199} {
		wantDone(t, bookWith(2, manyOrders(n)...), wrote("gert", impl.KPass, 1), 0, bookWith(2, append(manyOrders(n), o)...))
	}
	full := bookWith(2, manyOrders(200)...)
	wantNotDone(t, full, wrote("gert", impl.KPass, 1), 2)
	for i := range full.Orders {
		full.Orders[i].State = impl.OVoid
	}
	wantNotDone(t, full, wrote("gert", impl.KPass, 1), 2)
	wantNone(t, full, wrote("gert", impl.KPass, 2))
}

func TestALaterChangeOfTheEventIsNotSeen(t *testing.T) {
	list := []int{0, 1}
	got := impl.Do(impl.Begin(3), wrote("a", impl.KPass, list...))
	list[1] = 2
	if want := bookWith(3, order("a", impl.KPass, impl.OWritten, 0, 1)); !sameBook(got.Book, want) {
		t.Errorf("the order became %v", got.Book)
	}
}

// giveBookOf has order 1 to be given over sections 2, 5 and 8, and the causes of the codes that are asked.
func giveBookOf(kind int, causes []int, where []int) impl.Book {
	b := bookWith(10, order("bert", impl.KPass, impl.OBack, 2, 5, 8), order("anna", kind, impl.OWritten, 2, 5, 8), order("cora", impl.KWork, impl.OVoid, 2, 5, 8), order("dirk", impl.KPass, impl.OHeld, 9))
	b.Locked[0], b.Occ[1], b.Occ[9] = true, true, true
	for i, cause := range causes {
		switch cause {
		case 2:
			b.Orders[1].State = impl.OBack
		case 3:
			b.Orders = append(b.Orders, order("emil", impl.KPass, impl.OGiven+i%2, where[0]))
		case 4:
			b.Locked[where[1]] = true
		case 5:
			b.Occ[where[2]] = true
		}
	}
	return b
}

func TestGivingAndWhichCodeIsTheFirst(t *testing.T) {
	places := [][]int{{2, 5, 8}, {2, 8, 5}, {5, 2, 8}, {5, 8, 2}, {8, 2, 5}, {8, 5, 2}}
	for set := range 16 {
		var causes []int
		for code := 2; code <= 5; code++ {
			if set>>(code-2)&1 == 1 {
				causes = append(causes, code)
			}
		}
		for _, where := range places {
			for _, kind := range []int{impl.KPass, impl.KWork} {
				b := giveBookOf(kind, causes, where)
				against := causes
				if kind == impl.KPass {
					against = slices.DeleteFunc(slices.Clone(causes), func(code int) bool { return code == 5 })
				}
				if len(against) == 0 {
					wantDone(t, b, of(impl.EGive, 1), 0, withState(b, 1, impl.OGiven))
				} else {
					wantNotDone(t, b, of(impl.EGive, 1), against[0])
				}
			}
		}
	}
}

// A locked section where somebody is: no open order can be there too.
func TestGivingOverASectionWithSeveralCauses(t *testing.T) {
	for _, section := range []int{2, 5, 8} {
		for _, kind := range []int{impl.KPass, impl.KWork} {
			b := giveBookOf(kind, []int{4, 5}, []int{0, section, section})
			wantNotDone(t, b, of(impl.EGive, 1), 4)
			b = giveBookOf(kind, []int{3, 5}, []int{section, section, section})
			wantNotDone(t, b, of(impl.EGive, 1), 3)
		}
	}
}

func TestGivingInEachState(t *testing.T) {
	for _, state := range allStates {
		for _, kind := range []int{impl.KPass, impl.KWork} {
			b := bookWith(3, order("a", kind, state, 0, 2))
			if state == impl.OWritten {
				wantDone(t, b, of(impl.EGive, 0), 0, withState(b, 0, impl.OGiven))
			} else {
				wantNotDone(t, b, of(impl.EGive, 0), 2)
			}
		}
	}
}

// What may be given beside what: only an open order bars, whatever the kinds and whoever the holders.
func TestGivingBesideAnOrder(t *testing.T) {
	for _, state := range allStates {
		for kinds := range 4 {
			for _, holder := range []string{"a", "b"} {
				for _, list := range [][]int{{0}, {3}, {1, 2}, {0, 1, 2, 3}, {2, 3}, {1}, {4}, {0, 4}} {
					b := bookWith(5, order("a", 1+kinds%2, state, list...), order(holder, 1+kinds/2, impl.OWritten, 1, 2, 4))
					meets := slices.ContainsFunc(list, func(s int) bool { return s == 1 || s == 2 || s == 4 })
					open := state == impl.OGiven || state == impl.OHeld
					if meets && open {
						wantNotDone(t, b, of(impl.EGive, 1), 3)
					} else {
						wantDone(t, b, of(impl.EGive, 1), 0, withState(b, 1, impl.OGiven))
					}
				}
			}
		}
	}
}

func TestGivingWhereItIsLockedOrSomebodyIs(t *testing.T) {
	for section := range 5 {
		in := section == 1 || section == 3
		for _, kind := range []int{impl.KPass, impl.KWork} {
			b := bookWith(5, order("a", kind, impl.OWritten, 1, 3))
			given := func(b impl.Book) impl.Book { return withState(b, 0, impl.OGiven) }
			locked := withBook(b, func(b *impl.Book) { b.Locked[section] = true })
			if in {
				wantNotDone(t, locked, of(impl.EGive, 0), 4)
			} else {
				wantDone(t, locked, of(impl.EGive, 0), 0, given(locked))
			}
			occupied := withBook(b, func(b *impl.Book) { b.Occ[section] = true })
			if in && kind == impl.KWork {
				wantNotDone(t, occupied, of(impl.EGive, 0), 5)
			} else {
				wantDone(t, occupied, of(impl.EGive, 0), 0, given(occupied))
			}
		}
	}
}

func TestRepeatingInEachStateAndWhichCodeIsTheFirst(t *testing.T) {
	texts := map[int]string{impl.KPass: "order 1 to anna: pass 0 2", impl.KWork: "order 1 to anna: work on 0 2"}
	for kind, right := range texts {
		for _, state := range allStates {
			for _, holder := range []string{"anna", "bert", "ann", "annaa", "a", "bnna"} {
				for _, text := range []string{right, "", "x", right + " on sight", texts[3-kind], "order 0 to bert: pass 1"} {
					b := bookWith(3, order("bert", impl.KPass, impl.OGiven, 1), order("anna", kind, state, 0, 2))
					e := repeated(1, holder, text)
					switch {
					case state != impl.OGiven:
						wantNotDone(t, b, e, 2)
					case holder != "anna":
						wantNotDone(t, b, e, 3)
					case text != right:
						wantDone(t, b, e, 4, withState(b, 1, impl.OVoid))
					default:
						wantDone(t, b, e, 0, withState(b, 1, impl.OHeld))
					}
				}
			}
		}
	}
}

func TestTheTextAsItIsNow(t *testing.T) {
	plain, sight := "order 0 to anna: pass 1 3", "order 0 to anna: pass 1 3 on sight"
	b := bookWith(5, order("anna", impl.KPass, impl.OGiven, 1, 3), order("bert", impl.KWork, impl.OGiven, 0, 4))
	wantRepeat := func(b impl.Book, right, wrong string) {
		t.Helper()
		wantDone(t, b, repeated(0, "anna", right), 0, withState(b, 0, impl.OHeld))
		wantDone(t, b, repeated(0, "anna", wrong), 4, withState(b, 0, impl.OVoid))
	}
	wantRepeat(b, plain, sight)
	for _, section := range []int{1, 3} {
		came := impl.Do(b, of(impl.EOcc, section)).Book
		wantRepeat(came, sight, plain)
		both := impl.Do(came, of(impl.EOcc, 4-section)).Book
		wantRepeat(both, sight, plain)
		one := impl.Do(both, of(impl.EFree, section)).Book
		wantRepeat(one, sight, plain)
		left := impl.Do(one, of(impl.EFree, 4-section)).Book
		wantRepeat(left, plain, sight)
	}
	for _, section := range []int{0, 2, 4} {
		beside := impl.Do(b, of(impl.EOcc, section)).Book
		wantRepeat(beside, plain, sight)
		work := repeated(1, "bert", "order 1 to bert: work on 0 4")
		wantDone(t, beside, work, 0, withState(beside, 1, impl.OHeld))
		onSight := repeated(1, "bert", "order 1 to bert: work on 0 4 on sight")
		wantDone(t, beside, onSight, 4, withState(beside, 1, impl.OVoid))
	}
}

// oneLetterOff is a text with each letter changed, each left out, and one put in at each place.
func oneLetterOff(text string) []string {
	var list []string
	for i := range len(text) {
		for _, c := range []byte{text[i] ^ 1, text[i] ^ 32, text[i] ^ 128, 0} {
			list = append(list, text[:i]+string([]byte{c})+text[i+1:])
		}
		list = append(list, text[:i]+text[i+1:])
	}
	for i := range len(text) + 1 {
		for _, c := range []string{" ", "0", "x", "\n", "\x00"} {
			list = append(list, text[:i]+c+text[i:])
		}
	}
	return list
}

func TestATextWithOneLetterOff(t *testing.T) {
	b := bookWith(60, order("anna", impl.KPass, impl.OGiven, 0, 7, 12), order("bert", impl.KWork, impl.OGiven, 10, 59), order("cora", impl.KPass, impl.OGiven, 20))
	b.Occ[20] = true
	for number, text := range []string{"order 0 to anna: pass 0 7 12", "order 1 to bert: work on 10 59", "order 2 to cora: pass 20 on sight"} {
		holder := b.Orders[number].Holder
		wantDone(t, b, repeated(number, holder, text), 0, withState(b, number, impl.OHeld))
		for _, off := range oneLetterOff(text) {
			wantDone(t, b, repeated(number, holder, off), 4, withState(b, number, impl.OVoid))
		}
	}
}

func TestATextOf200And201Bytes(t *testing.T) {
	b := bookWith(3, order("anna", impl.KPass, impl.OGiven, 0), order("bert", impl.KWork, impl.OHeld, 2))
	text := impl.OrderText(b, 0)
	long := text + strings.Repeat(" ", 200-len(text))
	void := withState(b, 0, impl.OVoid)
	wantDone(t, b, repeated(0, "anna", long), 4, void)
	wantNone(t, b, repeated(0, "anna", long+" "))
	wantNotDone(t, b, repeated(0, "bert", long), 3)
	wantNone(t, b, repeated(0, "bert", long+" "))
	wantNotDone(t, b, repeated(1, "bert", long), 2)
	wantNone(t, b, repeated(1, "bert", long+" "))
	wantDone(t, b, repeated(0, "anna", ""), 4, void)
}

func TestTheLongestTextIsRepeated(t *testing.T) {
	b := bookWith(60, manyOrders(200)...)
	b.Orders[199] = order("abcdefghijklmnopqrst", impl.KPass, impl.OGiven, numbers(40, 60)...)
	b.Occ[59] = true
	text := "order 199 to abcdefghijklmnopqrst: pass 40 41 42 43 44 45 46 47 48 49 50 51 52 53 54 55 56 57 58 59 on sight"
	wantDone(t, b, repeated(199, "abcdefghijklmnopqrst", text), 0, withState(b, 199, impl.OHeld))
}

func TestGivingBackAndWhichCodeIsTheFirst(t *testing.T) {
	for _, state := range allStates {
		for _, kind := range []int{impl.KPass, impl.KWork} {
			for _, holder := range []string{"anna", "bert", "ann", "annaa", "a"} {
				b := bookWith(3, order("bert", impl.KPass, impl.OHeld, 1), order("anna", kind, state, 0, 2))
				b.Occ[0] = true
				switch e := gaveBack(1, holder); {
				case state != impl.OHeld:
					wantNotDone(t, b, e, 2)
				case holder != "anna":
					wantNotDone(t, b, e, 3)
				default:
					wantDone(t, b, e, 0, withState(b, 1, impl.OBack))
				}
			}
		}
	}
}

func TestCancelling(t *testing.T) {
	for _, state := range allStates {
		for _, kind := range []int{impl.KPass, impl.KWork} {
			b := bookWith(3, order("bert", impl.KPass, impl.OHeld, 1), order("anna", kind, state, 0, 2), order("anna", kind, impl.OWritten, 0, 2))
			b.Occ[0] = true
			if state == impl.OWritten || state == impl.OGiven {
				wantDone(t, b, of(impl.ECancel, 1), 0, withState(b, 1, impl.OVoid))
			} else {
				wantNotDone(t, b, of(impl.ECancel, 1), 2)
			}
		}
	}
}

func TestLocking(t *testing.T) {
	for _, state := range allStates {
		for _, kind := range []int{impl.KPass, impl.KWork} {
			for section := range 5 {
				b := bookWith(5, order("bert", impl.KPass, impl.OVoid, 0, 1, 2, 3), order("anna", kind, state, 1, 3))
				b.Locked[4], b.Occ[2], b.Occ[3] = true, true, true
				open := state == impl.OGiven || state == impl.OHeld
				if open && (section == 1 || section == 3) {
					wantNotDone(t, b, of(impl.ELock, section), 3)
				} else {
					wantDone(t, b, of(impl.ELock, section), 0, withBook(b, func(b *impl.Book) { b.Locked[section] = true }))
				}
			}
		}
	}
}

func TestMarksOfASection(t *testing.T) {
	for section := range 12 {
		b := plainBook()
		wantDone(t, b, of(impl.EUnlock, section), 0, withBook(b, func(b *impl.Book) { b.Locked[section] = false }))
		wantDone(t, b, of(impl.EOcc, section), 0, withBook(b, func(b *impl.Book) { b.Occ[section] = true }))
		wantDone(t, b, of(impl.EFree, section), 0, withBook(b, func(b *impl.Book) { b.Occ[section] = false }))
	}
}

// What is void or given back stays so, whatever happens.
func TestVoidAndBackStaySo(t *testing.T) {
	for _, state := range []int{impl.OBack, impl.OVoid} {
		for _, kind := range []int{impl.KPass, impl.KWork} {
			b := bookWith(3, order("anna", kind, state, 0, 2), order("bert", impl.KWork, impl.OWritten, 1))
			events := []impl.Event{of(impl.EGive, 0), of(impl.ECancel, 0), gaveBack(0, "anna"), gaveBack(0, "bert"), repeated(0, "bert", ""), repeated(0, "anna", ""), repeated(0, "anna", impl.OrderText(b, 0))}
			for _, e := range events {
				wantNotDone(t, b, e, 2)
			}
			for op := 6; op <= 9; op++ {
				for section := range 3 {
					events = append(events, of(op, section))
				}
			}
			events = append(events, of(impl.EGive, 1), of(impl.ECancel, 1), wrote("anna", kind, 0, 2), impl.Event{})
			for _, e := range events {
				if got := impl.Do(b, e); got.Code != 1 && got.Book.Orders[0].State != state {
					t.Errorf("Do(%v, %+v) = %v", b, e, got)
				}
			}
		}
	}
}

func TestAnOrderThatWasVoidedFreesItsSections(t *testing.T) {
	b := bookWith(2, order("a", impl.KPass, impl.OGiven, 0), order("b", impl.KWork, impl.OWritten, 0, 1))
	wantNotDone(t, b, of(impl.EGive, 1), 3)
	for _, e := range []impl.Event{repeated(0, "a", "what"), of(impl.ECancel, 0)} {
		void := impl.Do(b, e).Book
		wantDone(t, void, of(impl.EGive, 1), 0, withState(void, 1, impl.OGiven))
		wantDone(t, void, of(impl.ELock, 0), 0, withBook(void, func(b *impl.Book) { b.Locked[0] = true }))
	}
}

func TestListsOfAnArgumentThatShareMemoryComeBackApart(t *testing.T) {
	flags := make([]bool, 20)
	list := []int{0, 1, 2, 3}
	b := impl.Book{Sections: 5, Locked: flags[:5], Occ: flags[:5:5], Orders: append(make([]impl.Order, 0, 8), order("a", impl.KPass, impl.OWritten, list[:2]...), order("b", impl.KPass, impl.OWritten, list[:4]...), order("c", impl.KPass, impl.OVoid, list...))}
	for _, e := range []impl.Event{wrote("d", impl.KWork, list[1:3]...), of(impl.EGive, 0), of(impl.ECancel, 2), of(impl.ELock, 0), of(impl.EOcc, 4)} {
		before := copyOf(b)
		got := impl.Do(b, e)
		if !sameBook(b, before) || !slices.Equal(list, []int{0, 1, 2, 3}) || slices.Contains(flags, true) {
			t.Errorf("Do of %+v wrote into its argument", e)
		}
		wantApart(t, []impl.Book{b}, []impl.Event{e}, got.Book)
		if got.Book.Locked[0] != (e.Op == impl.ELock) || got.Book.Occ[4] != (e.Op == impl.EOcc) || got.Book.Occ[0] || got.Book.Locked[4] {
			t.Errorf("Do of %+v marked %v", e, got.Book)
		}
	}
}

func TestTheSameArgumentHasTheSameAnswer(t *testing.T) {
	for _, e := range rightEvents() {
		first := impl.Do(plainBook(), e)
		for range 3 {
			again := impl.Do(plainBook(), e)
			if again.Code != first.Code || !sameBook(again.Book, first.Book) {
				t.Errorf("Do of %+v is %v, then %v", e, first, again)
			}
		}
	}
}
