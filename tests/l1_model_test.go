package tests

import (
	"fmt"
	"math/rand"
	"slices"
	"strings"
	"testing"

	"loop.example/handsignal/impl"
)

// The model says chapter 1 once more, by the plainest search there is.

func modelOrderOk(o impl.Order, sections int) bool {
	letters := strings.Trim(o.Holder, "abcdefghijklmnopqrstuvwxyz") == ""
	good := letters && len(o.Holder) >= 1 && len(o.Holder) <= 20 && (o.Kind == 1 || o.Kind == 2) && o.State >= 1 && o.State <= 5 && len(o.Sections) >= 1 && len(o.Sections) <= 20
	for i, s := range o.Sections {
		good = good && s >= 0 && s < sections && (i == 0 || o.Sections[i-1] < s)
	}
	return good
}

func modelHas(o impl.Order, section int) bool {
	return (o.State == 2 || o.State == 3) && slices.Contains(o.Sections, section)
}

func modelBookOk(b impl.Book) int {
	if b.Sections < 1 || b.Sections > 60 || len(b.Locked) != b.Sections || len(b.Occ) != b.Sections || len(b.Orders) > 200 {
		return 1
	}
	for _, o := range b.Orders {
		if !modelOrderOk(o, b.Sections) {
			return 2
		}
	}
	code := 0
	for s := range b.Sections {
		n := 0
		for _, o := range b.Orders {
			if modelHas(o, s) {
				n++
			}
		}
		if n > 1 {
			return 3
		}
		if n == 1 && b.Locked[s] {
			code = 4
		}
	}
	return code
}

func modelWho(b impl.Book, section int) int {
	if modelBookOk(b) != 0 {
		return -1
	}
	return slices.IndexFunc(b.Orders, func(o impl.Order) bool { return modelHas(o, section) })
}

func modelText(b impl.Book, number int) string {
	if modelBookOk(b) != 0 || number < 0 || number >= len(b.Orders) {
		return ""
	}
	o := b.Orders[number]
	list := strings.Trim(fmt.Sprint(o.Sections), "[]")
	if o.Kind == 2 {
		return fmt.Sprintf("order %d to %s: work on %s", number, o.Holder, list)
	}
	sight := ""
	if slices.ContainsFunc(o.Sections, func(s int) bool { return b.Occ[s] }) {
		sight = " on sight"
	}
	return fmt.Sprintf("order %d to %s: pass %s%s", number, o.Holder, list, sight)
}

func drawnOrder(r *rand.Rand, sections int) impl.Order {
	names := []string{"a", "zz", "anna", "abcdefghijklmnopqrst"}
	o := order(names[r.Intn(4)], 1+r.Intn(2), 1+r.Intn(5))
	for s := range sections {
		if r.Intn(sections) < 2 && len(o.Sections) < 20 {
			o.Sections = append(o.Sections, s)
		}
	}
	if len(o.Sections) == 0 {
		o.Sections = []int{r.Intn(sections)}
	}
	return o
}

func drawnBook(r *rand.Rand) impl.Book {
	b := impl.Begin(1 + r.Intn(60))
	for range r.Intn(8) {
		b.Orders = append(b.Orders, drawnOrder(r, b.Sections))
	}
	for s := range b.Sections {
		b.Locked[s] = r.Intn(20) == 0
		b.Occ[s] = r.Intn(4) == 0
	}
	if len(b.Orders) > 0 && r.Intn(10) == 0 {
		o := &b.Orders[r.Intn(len(b.Orders))]
		switch r.Intn(4) {
		case 0:
			o.Sections = append(o.Sections, r.Intn(62)-1)
		case 1:
			o.State = r.Intn(8) - 1
		case 2:
			o.Kind = r.Intn(5) - 1
		case 3:
			o.Holder += "m"
		}
	}
	return b
}

func TestDrawnBooksAgainstTheModel(t *testing.T) {
	r := rand.New(rand.NewSource(1))
	seen := map[int]int{}
	for range 20000 {
		b := drawnBook(r)
		code := modelBookOk(b)
		seen[code]++
		wantCode(t, b, code)
		var open []int
		for n := -1; n <= len(b.Orders); n++ {
			wantText(t, b, n, modelText(b, n))
			if code == 0 && n >= 0 && n < len(b.Orders) && (b.Orders[n].State == 2 || b.Orders[n].State == 3) {
				open = append(open, n)
			}
		}
		wantOpen(t, b, open...)
		for s := -1; s <= b.Sections; s++ {
			wantWho(t, b, s, modelWho(b, s))
		}
		if t.Failed() {
			return
		}
	}
	for _, code := range []int{0, 2, 3, 4} {
		if seen[code] < 100 {
			t.Errorf("only %d books with code %d were drawn", seen[code], code)
		}
	}
}
