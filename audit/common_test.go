package audit_test

import (
	"math/rand"
	"slices"

	"spandrel/api"
	"spandrel/machine"
)

// most is the greatest index, and the greatest term.
const most = 1 << 40

// three is voters that may be.
var three = []int{0, 1, 2}

// noVoters is voters that can't be.
var noVoters = [][]int{nil, {}, {-1}, {7}, {1, 0}, {0, 0}, {0, 1, 2, 3, 4, 5, 6, 7}}

// span is a span of trace 1, root one of any.
func span(id int) api.Span { return root(1, id) }

func root(trace, id int) api.Span {
	return api.Span{Trace: trace, ID: id, Start: 1, End: 5, Name: "work"}
}

func opens() api.Command         { return api.Command{Kind: api.COpen} }
func expire(at int) api.Command  { return api.Command{Kind: api.CExpire, At: at} }
func retain(at int) api.Command  { return api.Command{Kind: api.CRetain, At: at} }
func votes(l ...int) api.Command { return api.Command{Kind: api.CRoster, Voters: l} }
func ingest(session, seq int, l ...api.Span) api.Command {
	return api.Command{Kind: api.CIngest, Session: session, Seq: seq, Spans: l}
}

// data is a command's bytes.
func data(c api.Command) []byte {
	b, e := machine.Put(c)
	if e != api.OK {
		panic(e)
	}
	return b
}

// entry is one of some command.
func entry(index, term int, c api.Command) api.Entry {
	return api.Entry{Index: index, Term: term, Data: data(c)}
}

// logOf is a log of some commands, in term 1.
func logOf(l ...api.Command) []api.Entry {
	var log []api.Entry
	for i, c := range l {
		log = append(log, entry(i+1, 1, c))
	}
	return log
}

// story is a log in which an ingest is tried again, and what ended is refused, and its replies.
func story() ([]api.Entry, []api.Reply) {
	log := logOf(
		api.Command{},                  // 1
		opens(),                        // 2
		ingest(2, 1, span(1)),          // 3
		opens(),                        // 4
		ingest(4, 1, span(1), span(2)), // 5
		ingest(2, 1, span(1)),          // 6: tried again
		ingest(4, 3, span(4)),          // 7: a gap
		votes(0, 1, 2, 3),              // 8
		expire(4),                      // 9: session 2 rested since 3
		ingest(2, 2, span(3)),          // 10: it has ended
		retain(9),                      // 11
	)
	return log, []api.Reply{
		{},
		{Session: 2},
		{Counts: api.Counts{Added: 1}},
		{Session: 4},
		{Counts: api.Counts{Added: 1, Same: 1}},
		{Counts: api.Counts{Added: 1}},
		{Err: api.ErrGap},
		{},
		{Gone: 1},
		{Err: api.ErrSession},
		{Gone: 1},
	}
}

// branches is a forest of spans, each at the top.
func branches(l ...api.Span) []api.Branch {
	var f []api.Branch
	for _, s := range l {
		f = append(f, api.Branch{Span: s})
	}
	return f
}

// looked is a look that ended at an index; told is another call that did.
func looked(index, trace int, f ...api.Branch) api.Call {
	return api.Call{Trace: trace, Began: 1, Ended: 1, Index: index, Forest: f}
}

func told(index int, c api.Command, r api.Reply) api.Call {
	return api.Call{C: c, Began: 1, Ended: 1, Index: index, Reply: r}
}

// during is a call with another time.
func during(began, ended int, c api.Call) api.Call {
	c.Began, c.Ended = began, ended
	return c
}

// spare is a list with room behind its end that holds something.
func spare[T any](mark T, l ...T) []T {
	return append(append(make([]T, 0, len(l)+2), l...), mark)[:len(l)]
}

// some is a command drawn at random for an entry of an index.
func some(r *rand.Rand, index int) api.Command {
	switch r.Intn(12) {
	case 0:
		return api.Command{}
	case 1, 2:
		return opens()
	case 3:
		return expire(max(0, index-r.Intn(20)))
	case 4:
		return retain(r.Intn(9))
	case 5:
		return votes(slices.DeleteFunc([]int{0, 1, 2, 3, 4, 5}, func(n int) bool { return n > 0 && r.Intn(2) == 0 })...)
	}
	l := []api.Span{root(1+r.Intn(2), 1+r.Intn(9))}
	if r.Intn(2) == 0 {
		l = append(l, span(1+r.Intn(9)))
	}
	return ingest(1+r.Intn(max(1, min(index, 6))), 1+r.Intn(3), l...)
}

// drawn is a log drawn at random, now and then one with an entry that can't be.
func drawn(r *rand.Rand, n int) []api.Entry {
	var log []api.Entry
	term := 1
	for i := range n {
		term += r.Intn(9) / 8
		log = append(log, entry(i+1, term, some(r, i+1)))
	}
	if n > 0 && r.Intn(4) == 0 {
		x := &log[r.Intn(n)]
		switch r.Intn(4) {
		case 0:
			x.Index += r.Intn(3) - 1
		case 1:
			x.Term += r.Intn(3) - 1
		case 2:
			x.Data = []byte{9}
		case 3:
			x.Data = nil
		}
	}
	return log
}
