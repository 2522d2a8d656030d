package console

import (
	"errors"
	"strconv"
	"strings"

	"spandrel/api"
)

// fault is why a text is none, or why a line of it was refused.
type fault struct {
	place int // the line, from 1 on; 0: the whole text
	why   api.Errno
}

func (f fault) Error() string {
	return "console: line " + strconv.Itoa(f.place) + ": " + f.why.Error()
}

func (f fault) Unwrap() error { return f.why }

// where is the place of a fault, and its error's number.
func where(err error) (int, api.Errno) {
	var f fault
	errors.As(err, &f)
	return f.place, f.why
}

// told is a line of the report: what was answered, or the number of the error.
func told(answer string, err error) string {
	var e api.Errno
	if errors.As(err, &e) {
		return tell("error", int(e))
	}
	return answer
}

// tell is a word, and numbers behind it.
func tell(word string, l ...int) string {
	b := []byte(word)
	for _, n := range l {
		b = strconv.AppendInt(append(b, ' '), int64(n), 10)
	}
	return string(b)
}

// tellView is what a node tells of itself.
func tellView(v api.View) string {
	return tell("state", v.Role, v.Leader, v.Hard.Term, v.Commit, v.Index, v.Index+len(v.Entries)) + " " + tell("voters", v.Voters...)
}

// tellCall is a call that began, and its place in the history.
func tellCall(place int, c api.Call) string {
	begun := tell("call", place)
	if c.Ended == 0 {
		return begun + " waits"
	}
	r := c.Reply
	n := r.Counts
	all := tell(begun, c.Index, int(r.Err), r.Session, r.Gone, n.Added, n.Same, n.Other, n.Cycle, n.Full)
	for _, b := range c.Forest {
		all += " " + tellBranch(b)
	}
	return all
}

// tellBranch is a span of a forest, and how it stands there.
func tellBranch(b api.Branch) string {
	mark := ""
	if b.Orphan {
		mark = "?"
	}
	return mark + strings.Repeat(".", b.Depth) + strconv.Itoa(b.Span.ID)
}
