package impl

import (
	"strconv"
	"strings"
)

const (
	MaxSections = 60
	MaxOrders   = 200
	MaxList     = 20
	MaxName     = 20
)

// The kinds and the states count from 1, so that a field nobody filled is none of them.
const (
	KPass = iota + 1
	KWork
)

const (
	OWritten = iota + 1
	OGiven
	OHeld
	OBack
	OVoid
)

// Order is an order in writing: whose, of which kind, for which sections, and how it stands.
type Order struct {
	Holder   string
	Kind     int
	Sections []int
	State    int
}

// Book is all orders by their numbers, and what the frame has locked, and where somebody is.
type Book struct {
	Sections int
	Orders   []Order
	Locked   []bool
	Occ      []bool
}

// Begin is a book of so many sections with no orders, nothing locked, and nobody anywhere.
func Begin(sections int) Book {
	if !sectionCountOk(sections) {
		return Book{}
	}
	return Book{Sections: sections, Locked: make([]bool, sections), Occ: make([]bool, sections)}
}

// BookOk is 0 for a book that is right, else the first code that fits.
func BookOk(b Book) int {
	if !sizesOk(b) {
		return 1
	}
	for _, o := range b.Orders {
		if !orderOk(o, b.Sections) {
			return 2
		}
	}
	owners, apart := sectionOwners(b.Orders)
	if !apart {
		return 3
	}
	for section, locked := range b.Locked {
		if _, owned := owners[section]; owned && locked {
			return 4
		}
	}
	return 0
}

// OrderText is what its holder must repeat; it changes with who is on the track.
func OrderText(b Book, order int) string {
	if BookOk(b) != 0 || order < 0 || order >= len(b.Orders) {
		return ""
	}
	o := b.Orders[order]
	var text strings.Builder
	text.WriteString("order " + strconv.Itoa(order) + " to " + o.Holder)
	if o.Kind == KPass {
		text.WriteString(": pass")
	} else {
		text.WriteString(": work on")
	}
	for _, section := range o.Sections {
		text.WriteString(" " + strconv.Itoa(section))
	}
	if o.Kind == KPass && anyMarked(b.Occ, o.Sections) {
		text.WriteString(" on sight")
	}
	return text.String()
}

// Open is the numbers of the open orders, ascending.
func Open(b Book) []int {
	if BookOk(b) != 0 {
		return nil
	}
	var open []int
	for number, o := range b.Orders {
		if isOpen(o) {
			open = append(open, number)
		}
	}
	return open
}

// Who is the number of the open order that has the section, -1 for none.
func Who(b Book, section int) int {
	if BookOk(b) != 0 {
		return -1
	}
	owners, _ := sectionOwners(b.Orders)
	if number, owned := owners[section]; owned {
		return number
	}
	return -1
}

func sectionCountOk(sections int) bool {
	return sections >= 1 && sections <= MaxSections
}

func sizesOk(b Book) bool {
	return sectionCountOk(b.Sections) && len(b.Locked) == b.Sections && len(b.Occ) == b.Sections && len(b.Orders) <= MaxOrders
}

func orderOk(o Order, sections int) bool {
	return nameOk(o.Holder) && kindOk(o.Kind) && sectionListOk(o.Sections, sections) && o.State >= OWritten && o.State <= OVoid
}

func nameOk(name string) bool {
	if len(name) < 1 || len(name) > MaxName {
		return false
	}
	for i := range len(name) {
		if name[i] < 'a' || name[i] > 'z' {
			return false
		}
	}
	return true
}

func kindOk(kind int) bool {
	return kind == KPass || kind == KWork
}

// sectionListOk asks for each section to be above the one ahead of it, so none stands twice.
func sectionListOk(list []int, sections int) bool {
	if len(list) < 1 || len(list) > MaxList {
		return false
	}
	last := -1
	for _, section := range list {
		if section <= last || section >= sections {
			return false
		}
		last = section
	}
	return true
}

func isOpen(o Order) bool {
	return o.State == OGiven || o.State == OHeld
}

// sectionOwners is the open order of each section that has one, and whether no section has two.
func sectionOwners(orders []Order) (map[int]int, bool) {
	owners := map[int]int{}
	for number, o := range orders {
		if !isOpen(o) {
			continue
		}
		for _, section := range o.Sections {
			if _, owned := owners[section]; owned {
				return nil, false
			}
			owners[section] = number
		}
	}
	return owners, true
}

// anyMarked tells whether one of the sections is marked in a list that has a flag for each section of a book.
func anyMarked(marks []bool, sections []int) bool {
	for _, section := range sections {
		if marks[section] {
			return true
		}
	}
	return false
}

// copyBook shares no memory with the book, so that the copy can be changed and handed out.
func copyBook(b Book) Book {
	c := Book{Sections: b.Sections, Locked: copyList(b.Locked), Occ: copyList(b.Occ)}
	for _, o := range b.Orders {
		c.Orders = append(c.Orders, copyOrder(o))
	}
	return c
}

func copyOrder(o Order) Order {
	o.Sections = copyList(o.Sections)
	return o
}

func copyList[T any](list []T) []T {
	return append([]T(nil), list...)
}
