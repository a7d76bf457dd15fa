package tests

import (
	"fmt"
	"strings"
	"testing"

	"loop.example/handsignal/impl"
)

func TestTheWayOfAnOrderInWords(t *testing.T) {
	wantReplies(t, 3, [][2]string{
		{"write ann pass 0 1", "0"},
		{"give 0", "order 0 to ann: pass 0 1"},
		{"repeat 0 ann: order 0 to ann: pass 0 1", "0"},
		{"lock 1", "3"},
		{"back 0 ann", "0"},
		{"lock 1", "0"},
		{"write bob work 1", "0"},
		{"give 1", "4"},
		{"unlock 1", "0"},
		{"give 1", "order 1 to bob: work on 1"},
		{"repeat 1 bob: order 1 to bob: work on 1", "0"},
		{"back 1 bob", "0"},
	}...)
}

func TestTextsWithoutALine(t *testing.T) {
	for _, text := range []string{"", "\n", "\n\n\n", strings.Repeat("\n", 65536)} {
		wantAnswer(t, 3, text, "")
	}
}

func TestEmptyLinesAndTheEndOfAText(t *testing.T) {
	for _, text := range []string{
		"occupied 0\nfree 00\nlock 3", "occupied 0\nfree 00\nlock 3\n", "occupied 0\nfree 00\nlock 3\n\n\n",
		"\noccupied 0\n\nfree 00\n\n\nlock 3", "\n\n\noccupied 0\nfree 00\n\nlock 3\n",
	} {
		wantAnswer(t, 3, text, "0\nwhat\n1\n")
	}
	wantAnswer(t, 3, "free 0", "0\n")
	wantAnswer(t, 3, "x", "what\n")
	wantAnswer(t, 3, "\nx", "what\n")
	// A line of blanks is not an empty one, and only a newline parts lines.
	wantAnswer(t, 3, " \n\t\n\r\n\x00\n", "what\nwhat\nwhat\nwhat\n")
	wantAnswer(t, 3, "free 0\r\nfree 0\rfree 0\u2028free 0\x0bfree 0\n", "what\nwhat\n")
	wantAnswer(t, 3, "free 0 \n free 0\nfree 0\n", "what\nwhat\n0\n")
}

func TestLinesThatAreNoneChangeNothing(t *testing.T) {
	wantReplies(t, 3, [][2]string{
		{"give 0", "1"},
		{"write ann pass 0 01", "what"},
		{"give 0", "1"},
		{"write ann pass 0 1", "0"},
		{"what", "what"},
		{"give 00", "what"},
		{"give +0", "what"},
		{"Give 0", "what"},
		{"give 18446744073709551616", "what"},
		{"give 0", "order 0 to ann: pass 0 1"},
		{"occupied 1 ", "what"},
		{"lock 1:", "what"},
		{"cancel  0", "what"},
		{"repeat 0 ann:order 0 to ann: pass 0 1", "what"},
		{"repeat 0 ann: " + strings.Repeat("x", 201), "what"},
		{"\xff", "what"},
		{"repeat 0 ann: order 0 to ann: pass 0 1", "0"},
		{"back 0 ann: x", "what"},
		{"back 0 ann", "0"},
	}...)
}

func TestEventsThatAreNoneOfTheBook(t *testing.T) {
	wantReplies(t, 5, [][2]string{
		{"write ann pass 0 5", "1"},
		{"write ann pass 59", "1"},
		{"write ann pass 60", "what"},
		{"write ann pass 0 4", "0"},
		{"give 1", "1"}, {"give 199", "1"}, {"give 200", "what"},
		{"repeat 1 ann: x", "1"}, {"repeat 199 ann: ", "1"}, {"repeat 200 ann: x", "what"},
		{"back 1 ann", "1"}, {"back 199 ann", "1"}, {"back 200 ann", "what"},
		{"cancel 1", "1"}, {"cancel 199", "1"}, {"cancel 200", "what"},
		{"lock 5", "1"}, {"lock 60", "1"}, {"lock 199", "1"}, {"lock 200", "what"},
		{"unlock 5", "1"}, {"unlock 60", "1"}, {"unlock 199", "1"}, {"unlock 200", "what"},
		{"occupied 5", "1"}, {"occupied 60", "1"}, {"occupied 199", "1"}, {"occupied 200", "what"},
		{"free 5", "1"}, {"free 60", "1"}, {"free 199", "1"}, {"free 200", "what"},
		{"give 0", "order 0 to ann: pass 0 4"},
		{"write bob work 5", "1"},
		{"repeat 0 ann: order 0 to ann: pass 0 4", "0"},
	}...)
}

func TestEachCodeInWords(t *testing.T) {
	wantReplies(t, 6, [][2]string{
		{"write ann pass 0 1", "0"}, {"write bob pass 1 2", "0"}, {"write cleo work 3", "0"}, {"write dora work 4", "0"}, {"write emma pass 4 5", "0"},
		{"repeat 0 ann: order 0 to ann: pass 0 1", "2"}, {"back 0 ann", "2"},
		{"give 0", "order 0 to ann: pass 0 1"}, {"give 0", "2"},
		{"give 1", "3"},
		{"lock 0", "3"}, {"lock 1", "3"}, {"lock 3", "0"}, {"lock 3", "0"},
		{"give 2", "4"},
		{"unlock 3", "0"}, {"unlock 3", "0"},
		{"occupied 4", "0"}, {"occupied 4", "0"},
		{"give 3", "5"},
		{"repeat 0 bob: order 0 to ann: pass 0 1", "3"},
		{"back 0 ann", "2"},
		{"repeat 0 ann: order 0 to ann: pass 0 1", "0"},
		{"repeat 0 ann: order 0 to ann: pass 0 1", "2"},
		{"cancel 0", "2"},
		{"back 0 bob", "3"},
		{"back 0 ann", "0"}, {"back 0 ann", "2"},
		{"give 1", "order 1 to bob: pass 1 2"},
		{"repeat 1 bob: order 1 to bob: pass 1 3", "4"},
		{"repeat 1 bob: order 1 to bob: pass 1 2", "2"},
		{"cancel 1", "2"}, {"give 1", "2"},
		{"lock 1", "0"},
		{"free 4", "0"}, {"free 4", "0"},
		{"give 3", "order 3 to dora: work on 4"},
		{"cancel 3", "0"}, {"cancel 3", "2"},
		{"cancel 2", "0"}, {"give 2", "2"},
		{"give 4", "order 4 to emma: pass 4 5"},
		{"repeat 4 emma: ", "4"},
		{"give 5", "1"},
	}...)
}

func TestGivingWithAndWithoutSomebody(t *testing.T) {
	wantReplies(t, 4, [][2]string{
		{"occupied 1", "0"}, {"occupied 3", "0"},
		{"write ann pass 0 1", "0"}, {"write bob pass 2", "0"}, {"write cleo work 3", "0"}, {"write dora pass 3", "0"},
		{"give 0", "order 0 to ann: pass 0 1 on sight"},
		{"give 1", "order 1 to bob: pass 2"},
		{"give 2", "5"},
		{"give 3", "order 3 to dora: pass 3 on sight"},
		{"free 1", "0"},
		{"repeat 0 ann: order 0 to ann: pass 0 1 on sight", "4"},
		{"repeat 3 dora: order 3 to dora: pass 3 on sight", "0"},
		{"occupied 2", "0"},
		{"repeat 1 bob: order 1 to bob: pass 2 on sight", "0"},
		{"back 3 dora", "0"}, {"free 3", "0"},
		{"give 2", "order 2 to cleo: work on 3"},
		{"occupied 3", "0"},
		{"repeat 2 cleo: order 2 to cleo: work on 3", "0"},
	}...)
}

func TestAnswersOverSoManySections(t *testing.T) {
	text := "write ann pass 0\ngive 0\nlock 1\nfree 59\nfree 60\n\nx"
	wantAnswer(t, 1, text, "0\norder 0 to ann: pass 0\n1\n1\n1\nwhat\n")
	wantAnswer(t, 2, text, "0\norder 0 to ann: pass 0\n0\n1\n1\nwhat\n")
	wantAnswer(t, 59, text, "0\norder 0 to ann: pass 0\n0\n1\n1\nwhat\n")
	wantAnswer(t, 60, text, "0\norder 0 to ann: pass 0\n0\n0\n1\nwhat\n")
	for _, sections := range append([]int{0, 61, 62, 200, 1<<32 + 1}, farNumbers...) {
		for _, text := range []string{text, "", "x", "free 0\n"} {
			wantAnswer(t, sections, text, "")
		}
	}
}

func TestTextsOf65536And65537Bytes(t *testing.T) {
	text := strings.Repeat("free 0\n", 9362) + "\n\n"
	wantAnswer(t, 1, text, strings.Repeat("0\n", 9362))
	wantAnswer(t, 1, text+"\n", "")
	wantAnswer(t, 1, text+"x", "")
	wantAnswer(t, 0, text, "")
	wantAnswer(t, 61, text, "")
	wantAnswer(t, 1, strings.Repeat("x", 65536), "what\n")
	wantAnswer(t, 1, strings.Repeat("x", 65537), "")
	wantAnswer(t, 1, strings.Repeat("x\n", 32768), strings.Repeat("what\n", 32768))
	wantAnswer(t, 1, strings.Repeat("x\n", 32768)+"\n", "")
	// Bytes are counted, not letters.
	wantAnswer(t, 1, strings.Repeat("\u00e4", 32768), "what\n")
	wantAnswer(t, 1, strings.Repeat("\u00e4", 32769), "")
	wantAnswer(t, 1, strings.Repeat("\n", 65537), "")
}

func TestAFullBookInWords(t *testing.T) {
	var pairs [][2]string
	for i := range 200 {
		pairs = append(pairs, [2]string{fmt.Sprintf("write ann pass %d", i%60), "0"})
	}
	pairs = append(pairs, [2]string{"write ann pass 0", "2"}, [2]string{"write ann pass 60", "what"})
	for i := range 60 {
		pairs = append(pairs, [2]string{fmt.Sprintf("give %d", 140+i), fmt.Sprintf("order %d to ann: pass %d", 140+i, (140+i)%60)})
	}
	pairs = append(pairs, [2]string{"give 0", "3"}, [2]string{"give 199", "2"}, [2]string{"give 200", "what"})
	for range 1000 {
		pairs = append(pairs, [2]string{"lock 0", "3"})
	}
	wantReplies(t, 60, pairs...)
}

func TestTheLongestOrderInWords(t *testing.T) {
	name, list := strings.Repeat("z", 20), strings.Trim(fmt.Sprint(numbers(40, 60)), "[]")
	text := "order 0 to " + name + ": pass " + list + " on sight"
	wantReplies(t, 60, [][2]string{
		{"occupied 59", "0"},
		{"write " + name + " pass " + list, "0"},
		{"give 0", text},
		{"repeat 0 " + name + ": " + text, "0"},
		{"back 0 " + name, "0"},
	}...)
	wantReplies(t, 60, [][2]string{{"write " + name + "z pass " + list, "what"}, {"write " + name + " pass 39 " + list, "what"}, {"give 0", "1"}}...)
}

func TestNothingIsKeptFromAnswerToAnswer(t *testing.T) {
	other := "write bob work 0\ngive 0\noccupied 1\nlock 2\n"
	for range 3 {
		wantAnswer(t, 3, "give 0\nwrite ann pass 0 1 2\ngive 0\n", "1\n0\norder 0 to ann: pass 0 1 2\n")
		wantAnswer(t, 3, other, "0\norder 0 to bob: work on 0\n0\n0\n")
		wantAnswer(t, 3, "lock 0", "0\n")
	}
}

func TestAnAnswerIsNewMemory(t *testing.T) {
	text := "write ann pass 0\ngive 0\nx"
	given, memory := lent(text)
	got := impl.Answer(2, given)
	if string(memory) != text {
		t.Errorf("Answer wrote into its argument: %q", memory)
	}
	spoil(memory)
	if want := "0\norder 0 to ann: pass 0\nwhat\n"; got != want {
		t.Errorf("the answer became %q, want %q", got, want)
	}
}
