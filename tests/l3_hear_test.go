package tests

import (
	"fmt"
	"strings"
	"testing"

	"loop.example/handsignal/impl"
)

func TestHearingNothing(t *testing.T) {
	wantUnheard(t, "", " ", "  ", "\n", "\t", ":", ": ", "\x00", "\xff", "0", "what")
}

func TestNumbersThatAreHeard(t *testing.T) {
	for _, place := range numberPlaces() {
		for number := range 260 {
			line := placed(place, fmt.Sprint(number))
			good := number < 200
			if strings.HasPrefix(place, "write") {
				good = number < 60
			}
			if got := impl.Hear(line); got.Ok != good {
				t.Errorf("Hear(%q) = %+v", line, got)
			}
		}
	}
}

func TestNumbersThatAreNearlyOne(t *testing.T) {
	bad := []string{
		"00", "01", "007", "000", "010", "0000000000000000000000001",
		"+1", "-1", "+0", "-0", "--1", "- 1", "\u22121",
		"4294967296", "4294967297", "9223372036854775807", "9223372036854775808", "18446744073709551615", "18446744073709551616", "18446744073709551617",
		"-9223372036854775808", "-9223372036854775809", "340282366920938463463374607431768211457", strings.Repeat("9", 1000), "1" + strings.Repeat("0", 1000), strings.Repeat("0", 1000) + "1",
		"", " 1", "1 ", "1.", "1.0", "1,0", ".1", "1e1", "0x1", "0b1", "0o1", "1_0", "1a", "a1", "a", "one", "I", "\u00b2", "\u0661", "\uff11", "1\xff", "\xff1", "1\x00", "\x001", "1\t", "1\r", "1\n", "\n1", "#",
	}
	for _, place := range numberPlaces() {
		for _, number := range bad {
			wantUnheard(t, placed(place, number))
		}
	}
	for _, number := range bad {
		if number == "" || number == "1 " || number == " 1" {
			continue
		}
		wantUnheard(t, "write ann pass 0 "+number, "write ann pass "+number+" 59", "write ann pass 0 "+number+" 59")
	}
}

func TestBlanksTooManyOrTooFew(t *testing.T) {
	for op, line := range rightLines() {
		wantUnheard(t, " "+line, "\t"+line, "\n"+line, line[1:])
		if op == impl.ERepeat {
			line = strings.TrimSuffix(line, "order 1 to bert: pass 2 3 10 on sight")
		} else {
			wantUnheard(t, line+" ", line+"  ", line+"\t", line+"\n", line+"\r", line+"\x00")
		}
		for i := range len(line) {
			if line[i] != ' ' {
				continue
			}
			ahead, behind := line[:i], line[i+1:]
			wantUnheard(t, ahead+behind, ahead+"\t"+behind, ahead+"\n"+behind, ahead+"\u00a0"+behind, ahead+"_"+behind)
			if behind != "" {
				wantUnheard(t, ahead+"  "+behind, ahead+" ")
			}
			// A shorter list is a list.
			if ahead != "write gert work 0" {
				wantUnheard(t, ahead)
			}
		}
	}
}

func TestWordsThatNoRowHas(t *testing.T) {
	for op, line := range rightLines() {
		word, rest, _ := strings.Cut(line, " ")
		wantUnheard(t, strings.ToUpper(line), strings.ToUpper(word)+" "+rest, strings.ToUpper(word[:1])+word[1:]+" "+rest)
		wantUnheard(t, word, word+" ", rest, " "+rest, word+"s "+rest, "x"+word+" "+rest, word[1:]+" "+rest, word[:len(word)-1]+" "+rest, word+": "+rest, word+"\xff "+rest, "\u00e4"+word+" "+rest)
		for other, otherLine := range rightLines() {
			otherWord, _, _ := strings.Cut(otherLine, " ")
			if named := namedFields[op] == namedFields[other]; impl.Hear(otherWord+" "+rest).Ok != named {
				t.Errorf("Hear(%q) = %+v", otherWord+" "+rest, impl.Hear(otherWord+" "+rest))
			}
		}
	}
	for _, word := range []string{"void", "read", "call", "order", "pass", "work", "occ", "occupy", "unoccupied", "hold", "held", "given", "freed", "unfree", "locked", "1", "2", "9", "EGive"} {
		wantUnheard(t, word, word+" 1", word+" 1 ann", word+" 1 ann: x", word+" ann pass 1")
	}
}

func TestNamesOfALine(t *testing.T) {
	for _, place := range []string{"write # pass 3", "write # work 3 4", "repeat 3 #: x", "repeat 3 #: ", "back 3 #"} {
		for _, name := range goodNames() {
			if !impl.Hear(placed(place, name)).Ok {
				t.Errorf("Hear(%q) is not Ok", placed(place, name))
			}
		}
		for _, name := range append(badNames(), "ANN", "Ann", "ann-", "ann:", ":ann", ":", "ann ann", " ann", "ann ", "\tann", "ann\t", "3", "\xff", "\xc3\xa4") {
			wantUnheard(t, placed(place, name))
		}
	}
}

func TestKindsOfALine(t *testing.T) {
	wantHeard(t, "write ann pass 3", wrote("ann", impl.KPass, 3))
	wantHeard(t, "write ann work 3", wrote("ann", impl.KWork, 3))
	for _, kind := range []string{"", "Pass", "PASS", "passs", "pas", "pass:", "Work", "WORK", "works", "wor", "walk", "work on", "on", "pass work", "passwork", "1", "2", "0", "ann", "\xff", "pass\xff"} {
		wantUnheard(t, "write ann "+kind+" 3", "write ann "+kind, "write ann "+kind+" ")
	}
	wantUnheard(t, "write ann 3", "write pass 3", "write work 3 4", "write ann", "write pass ann 3", "write 3 ann pass")
}

func TestListsOfALine(t *testing.T) {
	list := func(sections []int) string {
		return "write ann pass " + strings.Trim(fmt.Sprint(sections), "[]")
	}
	for _, sections := range [][]int{{0}, {0, 1}, {58, 59}, {9, 10}, {2, 11}, numbers(0, 20), numbers(40, 60)} {
		wantHeard(t, list(sections), wrote("ann", impl.KPass, sections...))
	}
	for _, sections := range [][]int{{60}, {0, 60}, {1, 0}, {59, 0}, {0, 2, 1}, {10, 9}, {0, 0}, {3, 3}, {0, 5, 5}, numbers(0, 21), numbers(39, 60), numbers(0, 60), numbers(0, 61), make([]int, 10000)} {
		wantUnheard(t, list(sections))
	}
	wantUnheard(t, "write ann pass", "write ann pass ", "write ann pass 0,1", "write ann pass 0, 1", "write ann pass 0-1", "write ann pass [0 1]", "write ann pass 0 1 on sight", "write ann pass 0 1: x", "write ann pass 0 1 ann", "write ann pass 0\n1")
}

func TestTextsThatAreHeard(t *testing.T) {
	for _, text := range tellableTexts() {
		wantHeard(t, "repeat 7 bob: "+text, repeated(7, "bob", text))
	}
	for _, n := range []int{201, 202, 1000, 100000} {
		wantUnheard(t, "repeat 7 bob: "+strings.Repeat("x", n), "repeat 7 bob: "+strings.Repeat(": ", n), "repeat 7 bob: "+strings.Repeat("\xff", n))
	}
	for _, text := range []string{"\n", "a\nb", "\na", "a\n", "a\r\n", "\nrepeat 7 bob: a"} {
		wantUnheard(t, "repeat 7 bob: "+text)
	}
	wantUnheard(t, "repeat 7 bob", "repeat 7 bob ", "repeat 7 bob:", "repeat 7 bob:x", "repeat 7 bob:\tx", "repeat 7 bob :x", "repeat 7 bob : x", "repeat 7 bob x", "repeat 7 bob; x", "repeat 7: x", "repeat 7 : x", "repeat 7:bob: x", "repeat bob: x", "repeat: x", "repeat 7 bob\n: x")
}

func TestATextBehindALineThatHasNone(t *testing.T) {
	for op, line := range rightLines() {
		if op == impl.ERepeat {
			continue
		}
		wantUnheard(t, line+": ", line+":", line+": x", line+": order 0 to ann: pass 0", line+" : x", line+" x", line+" 0 x")
		if op != impl.EBack {
			wantUnheard(t, line+" ann", line+" ann: x")
		}
	}
}

func TestBytesThatAreNoLettersInALine(t *testing.T) {
	for op, line := range rightLines() {
		if op == impl.ERepeat {
			line = "repeat 1 bert: "
		}
		for i := range len(line) {
			for _, b := range []string{"\x00", "\x7f", "\x80", "\xff", "\n", "\u00e4"} {
				wantUnheard(t, line[:i]+b+line[i:], line[:i]+b+line[i+1:])
			}
		}
	}
}

func TestTwoLinesAreNotOne(t *testing.T) {
	for _, line := range rightLines() {
		wantUnheard(t, line+"\ngive 0", "give 0\n"+line, line+"\n", line+"\n\n")
	}
}

func TestWhatIsHeardIsNewMemory(t *testing.T) {
	for _, want := range []impl.Event{wrote("ann", impl.KPass, 3, 4, 5), repeated(7, "bob", "order 7 to bob: pass 0"), gaveBack(7, "cleo")} {
		line := impl.Line(want)
		given, memory := lent(line)
		first, second := impl.Hear(given), impl.Hear(given)
		if string(memory) != line {
			t.Errorf("Hear(%q) wrote into its argument: %q", line, memory)
		}
		spoil(memory)
		list := first.Event.Sections
		for i := range cap(list) {
			list[:cap(list)][i] = -1
		}
		first.Event.Sections = want.Sections
		for _, h := range []impl.Heard{first, second, impl.Hear(line)} {
			if !h.Ok || !sameEvent(h.Event, want) {
				t.Errorf("Hear(%q) became %+v", line, h)
			}
		}
	}
}

func TestHearingOneLineBehindAnother(t *testing.T) {
	wantUnheard(t, "give", "what")
	for range 3 {
		for op, line := range rightLines() {
			wantHeard(t, line, rightEvents()[op])
			wantUnheard(t, line+"\n", "give 01", "write ann pass 0 0")
		}
	}
}
