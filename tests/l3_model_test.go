package tests

import (
	"fmt"
	"math/rand"
	"regexp"
	"strconv"
	"strings"
	"testing"

	"loop.example/handsignal/impl"
)

// The model says chapter 3 once more: what a line is by patterns, and whether an event has one by the greatest book there is (but for the sections of 60 to 199).

var (
	modelWords   = []string{"", "write", "give", "repeat", "back", "cancel", "lock", "unlock", "occupied", "free"}
	modelWriting = regexp.MustCompile(`^write ([a-z]{1,20}) (pass|work)((?: (?:[0-9]|[1-5][0-9])){1,20})$`)
	modelOther   = regexp.MustCompile(`^(give|repeat|back|cancel|lock|unlock|occupied|free) (0|[1-9][0-9]?|1[0-9][0-9])(| ([a-z]{1,20})(|: ([^\n]*)))$`)
)

func modelLine(e impl.Event) string {
	b := bookWith(60, manyOrders(200)...)
	section := e
	if e.Op >= 6 && e.Of >= 60 && e.Of < 200 {
		section.Of = 0
	}
	if !modelEventOk(b, section) || strings.Contains(e.Text, "\n") {
		return ""
	}
	switch e.Op {
	case 1:
		return fmt.Sprintf("write %s %s %s", e.Holder, []string{"", "pass", "work"}[e.Kind], strings.Trim(fmt.Sprint(e.Sections), "[]"))
	case 3:
		return fmt.Sprintf("repeat %d %s: %s", e.Of, e.Holder, e.Text)
	case 4:
		return fmt.Sprintf("back %d %s", e.Of, e.Holder)
	}
	return fmt.Sprintf("%s %d", modelWords[e.Op], e.Of)
}

func modelHear(line string) (impl.Event, bool) {
	if m := modelWriting.FindStringSubmatch(line); m != nil {
		e := impl.Event{Op: 1, Holder: m[1], Kind: map[string]int{"pass": 1, "work": 2}[m[2]]}
		for i, word := range strings.Fields(m[3]) {
			n, _ := strconv.Atoi(word)
			if i > 0 && n <= e.Sections[i-1] {
				return impl.Event{}, false
			}
			e.Sections = append(e.Sections, n)
		}
		return e, true
	}
	m := modelOther.FindStringSubmatch(line)
	if m == nil {
		return impl.Event{}, false
	}
	e := impl.Event{Holder: m[4], Text: m[6]}
	e.Of, _ = strconv.Atoi(m[2])
	for op, word := range modelWords {
		if word == m[1] {
			e.Op = op
		}
	}
	name, text := m[3] != "", m[5] != ""
	if name != (e.Op == 3 || e.Op == 4) || text != (e.Op == 3) || len(e.Text) > 200 {
		return impl.Event{}, false
	}
	return e, true
}

func modelAnswer(sections int, text string) string {
	if sections < 1 || sections > 60 || len(text) > 65536 {
		return ""
	}
	b := impl.Begin(sections)
	var answer strings.Builder
	for _, line := range strings.Split(text, "\n") {
		if line == "" {
			continue
		}
		e, ok := modelHear(line)
		if !ok {
			answer.WriteString("what\n")
			continue
		}
		code, after := modelDo(b, e)
		if code != 1 {
			b = after
		}
		if code == 0 && e.Op == 2 {
			answer.WriteString(modelText(b, e.Of) + "\n")
		} else {
			fmt.Fprintln(&answer, code)
		}
	}
	return answer.String()
}

func TestDrawnEventsInWordsAgainstTheModel(t *testing.T) {
	r := rand.New(rand.NewSource(4))
	seen := map[string]int{}
	for range 20000 {
		e := drawnEvent(r, drawnBook(r))
		switch r.Intn(20) {
		case 0:
			e.Of = []int{-1, 0, 59, 60, 199, 200}[r.Intn(6)]
		case 1:
			e.Text += "\n"
		case 2:
			e.Text = strings.Repeat(":", 198+r.Intn(5))
		}
		want := modelLine(e)
		word, _, _ := strings.Cut(want, " ")
		seen[word]++
		wantLine(t, e, want)
		if t.Failed() {
			return
		}
	}
	for _, word := range modelWords {
		if seen[word] < 100 {
			t.Errorf("only %d lines with the word %q were drawn", seen[word], word)
		}
	}
}

// nearly is a line with some bytes put in, left out, or turned into others.
func nearly(r *rand.Rand, line string) string {
	some := []string{" ", " ", "0", "0", "1", "9", "-", "+", ":", ": ", "a", "z", "A", "\n", "\t", "\xff", "\u00e4", "pass", " 7", " ann"}
	for range 1 + r.Intn(2) {
		from := r.Intn(len(line) + 1)
		to := min(from+r.Intn(3), len(line))
		what := ""
		if r.Intn(3) > 0 {
			what = some[r.Intn(len(some))]
		}
		line = line[:from] + what + line[to:]
	}
	return line
}

func TestDrawnLinesAgainstTheModel(t *testing.T) {
	r := rand.New(rand.NewSource(5))
	heard := 0
	for range 60000 {
		line := nearly(r, modelLine(drawnEvent(r, drawnBook(r))))
		want, ok := modelHear(line)
		if !ok {
			wantUnheard(t, line)
		} else {
			heard++
			wantHeard(t, line, want)
			wantLine(t, want, line)
		}
		if t.Failed() {
			return
		}
	}
	if heard < 5000 || heard > 55000 {
		t.Errorf("%d of 60000 lines were heard", heard)
	}
}

// drawnLines is a run in words, with empty lines and lines that are none between.
func drawnLines(r *rand.Rand, sections, n int) string {
	var text strings.Builder
	for _, e := range drawnRun(r, sections, n) {
		line := modelLine(e)
		if r.Intn(30) == 0 {
			line = nearly(r, line)
		}
		text.WriteString(line + strings.Repeat("\n", 1+r.Intn(8)/7))
	}
	return strings.TrimRight(text.String(), "\n") + strings.Repeat("\n", r.Intn(3))
}

func TestDrawnTextsAgainstTheModel(t *testing.T) {
	r := rand.New(rand.NewSource(6))
	seen := map[string]int{}
	for i := range 150 {
		sections, n := 1+r.Intn(60), 1+r.Intn(120)
		if i%25 == 0 {
			n = 1200
		}
		text := drawnLines(r, sections, n)
		want := modelAnswer(sections, text)
		wantAnswer(t, sections, text, want)
		if t.Failed() {
			return
		}
		for _, said := range strings.Split(want, "\n") {
			word, _, _ := strings.Cut(said, " ")
			seen[word]++
		}
	}
	for _, word := range []string{"what", "order", "0", "1", "2", "3", "4", "5"} {
		if seen[word] < 20 {
			t.Errorf("only %d answers with %q were drawn", seen[word], word)
		}
	}
}

// A run in words is the same run: the lines of events are answered as Run answers the events.
func TestRunsInWords(t *testing.T) {
	r := rand.New(rand.NewSource(7))
	for range 50 {
		sections := 1 + r.Intn(60)
		var text, want strings.Builder
		var told []impl.Event
		for _, e := range drawnRun(r, sections, 200) {
			if line := impl.Line(e); line != "" {
				told = append(told, e)
				text.WriteString(line + "\n")
			}
		}
		for i, d := range impl.Run(sections, told) {
			if told[i].Op == impl.EGive && d.Code == 0 {
				want.WriteString(impl.OrderText(d.Book, told[i].Of) + "\n")
			} else {
				fmt.Fprintln(&want, d.Code)
			}
		}
		wantAnswer(t, sections, text.String(), want.String())
		if t.Failed() {
			return
		}
	}
}
