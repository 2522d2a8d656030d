package console

import (
	"slices"
	"strings"

	"spandrel/api"
)

// line is one that says something.
type line struct {
	row
	place   int                 // in the text, from 1 on
	numbers [kindsOfNumbers]int // by what they are
	voters  []int
	spans   []api.Span
}

// read is the lines of a text that say something; or why it is none.
func read(text string) ([]line, error) {
	if len(text) > api.MaxText {
		return nil, fault{why: api.ErrLong}
	}
	var l []line
	for i, s := range strings.Split(text, "\n") {
		if s == "" || s[0] == '#' {
			continue
		}
		x, ok := readLine(s)
		if !ok {
			return nil, fault{i + 1, api.ErrLine}
		}
		x.place = i + 1
		l = append(l, x)
	}
	return l, nil
}

// readLine is a line by its row of the table.
func readLine(s string) (line, bool) {
	if len(s) > api.MaxLine {
		return line{}, false
	}
	l := strings.Split(s, " ")
	for _, r := range table {
		if r.word == l[0] {
			return r.read(l[1:])
		}
	}
	return line{}, false
}

// read is a line of the row's word, and of some parts behind it.
func (r row) read(l []string) (line, bool) {
	x := line{row: r}
	for _, p := range r.behind {
		ok := true
		switch p {
		case nothing:
		case voters:
			x.voters, ok = readNumbers(l)
			l = nil
		case spans:
			x.spans, ok = readSpans(l)
			l = nil
		default:
			if len(l) == 0 {
				return line{}, false
			}
			x.numbers[p], ok = readNumber(l[0])
			l = l[1:]
		}
		if !ok {
			return line{}, false
		}
	}
	return x, len(l) == 0
}

// step is the step that a line is.
func (x line) step() api.Step {
	n := x.numbers
	return api.Step{
		Kind:    x.kind,
		Client:  n[client],
		Node:    n[node],
		C:       api.Command{Kind: x.command, At: n[at], Spans: x.spans},
		Trace:   n[trace],
		Timeout: n[timeout],
		Msg:     n[message],
		N:       n[act],
		Keep:    n[keep],
		Tear:    n[tear],
		Voters:  x.voters,
	}
}

// readNumber is a number of at most nine digits, in its one form.
func readNumber(s string) (int, bool) {
	if s == "" || len(s) > 9 || len(s) > 1 && s[0] == '0' {
		return 0, false
	}
	n := 0
	for _, b := range []byte(s) {
		if b < '0' || b > '9' {
			return 0, false
		}
		n = 10*n + int(b-'0')
	}
	return n, true
}

// readNumbers is one number or more.
func readNumbers(l []string) ([]int, bool) {
	var numbers []int
	for _, s := range l {
		n, ok := readNumber(s)
		if !ok {
			return nil, false
		}
		numbers = append(numbers, n)
	}
	return numbers, len(numbers) > 0
}

// readSpans is one span or more, each of six parts.
func readSpans(l []string) ([]api.Span, bool) {
	var all []api.Span
	for six := range slices.Chunk(l, 6) {
		s, ok := readSpan(six)
		if !ok {
			return nil, false
		}
		all = append(all, s)
	}
	return all, len(all) > 0
}

func readSpan(l []string) (api.Span, bool) {
	if len(l) != 6 || !isName(l[5]) {
		return api.Span{}, false
	}
	n, ok := readNumbers(l[:5])
	if !ok {
		return api.Span{}, false
	}
	return api.Span{Trace: n[0], ID: n[1], Parent: n[2], Start: n[3], End: n[4], Name: l[5]}, true
}

// isName tells whether a part may be a span's name.
func isName(s string) bool {
	for _, b := range []byte(s) {
		if b < 33 || b > 126 {
			return false
		}
	}
	return 1 <= len(s) && len(s) <= api.MaxName
}
