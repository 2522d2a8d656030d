package machine_test

import (
	"bytes"
	"math"
	"slices"
	"testing"

	"spandrel/api"
	"spandrel/machine"
	"spandrel/session"
	"spandrel/store"
	"spandrel/wire"
)

// fresh is a machine that has done nothing.
func fresh(t *testing.T, voters ...int) *machine.Machine {
	t.Helper()
	m, e := machine.New(voters...)
	if e != api.OK {
		t.Fatal(e)
	}
	return m
}

// entry is one of a command.
func entry(index, term int, c api.Command) api.Entry {
	b, _ := machine.Put(c)
	return api.Entry{Index: index, Term: term, Data: b}
}

// next fails unless a command, done by the next entry, has just that reply.
func next(t *testing.T, m *machine.Machine, c api.Command, want api.Reply) {
	t.Helper()
	done(t, m, entry(m.Index()+1, max(1, m.Term()), c), want)
}

// done fails unless an entry is done, with just that reply.
func done(t *testing.T, m *machine.Machine, x api.Entry, want api.Reply) {
	t.Helper()
	if r, e := m.Apply(x); e != api.OK || r != want {
		t.Fatalf("%d: %+v %v, not %+v", x.Index, r, e, want)
	}
	if m.Index() != x.Index || m.Term() != x.Term {
		t.Fatal(m.Index(), m.Term(), "not", x.Index, x.Term)
	}
}

// refused fails unless an entry is refused, and nothing has changed.
func refused(t *testing.T, m *machine.Machine, index, term int) {
	t.Helper()
	was := m.Image()
	for _, c := range []api.Command{{}, {Kind: api.COpen}, expire(most), retain(most), roster(6), {Kind: 9}} {
		if r, e := m.Apply(entry(index, term, c)); e != api.ErrIndex || r != (api.Reply{}) {
			t.Fatal(index, term, r, e)
		}
	}
	if !bytes.Equal(m.Image(), was) {
		t.Fatal("it has changed")
	}
}

// added is the reply to spans that are new.
func added(n int) api.Reply { return api.Reply{Counts: api.Counts{Added: n}} }

// err is a reply with an error.
func err(e api.Errno) api.Reply { return api.Reply{Err: e} }

// inside is the bytes of a machine of some parts.
func inside(index, term int, voters []int, s, t []byte) []byte {
	b := wire.Number(wire.Number(nil, index), term)
	b = wire.Number(b, len(voters))
	for _, n := range voters {
		b = wire.Number(b, n)
	}
	return wire.Text(wire.Text(b, string(s)), string(t))
}

// holds fails unless a machine has just these parts.
func holds(t *testing.T, m *machine.Machine, index, term int, voters []int, s *store.Store, tab *session.Table) {
	t.Helper()
	if m.Index() != index || m.Term() != term || !slices.Equal(m.Voters(), voters) || !slices.Equal(m.Traces(), s.Traces()) || !slices.Equal(m.Seats(), tab.Seats()) {
		t.Fatal(m.Index(), m.Term(), m.Voters(), m.Traces(), m.Seats())
	}
	for _, trace := range append(s.Traces(), 0, -1, 999, math.MinInt, math.MaxInt) {
		if !slices.Equal(m.Lookup(trace), s.Lookup(trace)) {
			t.Fatal(trace, m.Lookup(trace))
		}
	}
	if !bytes.Equal(m.Image(), inside(index, term, voters, s.Image(), tab.Image())) {
		t.Fatal(m.Image())
	}
}

// The chapter's example.
func TestExample(t *testing.T) {
	m := fresh(t, 0, 1, 2)
	s := at(1, 1, 0, 5)
	done(t, m, entry(1, 1, api.Command{Kind: api.COpen}), api.Reply{Session: 1})
	done(t, m, entry(2, 1, ingest(1, 1, s)), added(1))
	done(t, m, entry(3, 1, ingest(1, 1, s)), added(1))
	done(t, m, entry(4, 1, expire(3)), api.Reply{Gone: 1})
	done(t, m, entry(5, 1, ingest(1, 2, s)), err(api.ErrSession))
	refused(t, m, 7, 1)
}

// P9.2: who may vote at first.
func TestNew(t *testing.T) {
	for _, l := range [][]int{nil, {}, {-1}, {7}, {0, 0}, {1, 0}, {0, 1, 7}, {math.MaxInt}, {0, 1, 2, 3, 4, 5, 6, 7}} {
		if m, e := machine.New(l...); m != nil || e != api.ErrArg {
			t.Error(l, e)
		}
	}
	for _, l := range [][]int{{0}, {6}, {0, 1, 2, 3, 4, 5, 6}, {2, 4}} {
		holds(t, fresh(t, l...), 0, 0, l, store.New(), session.New())
	}
}

// P9.2, P9.8: an entry is done if its index is the next one, and its term not below the last one.
func TestApplyTurn(t *testing.T) {
	m := fresh(t, 0)
	for _, x := range [][2]int{{0, 1}, {2, 1}, {-1, 1}, {1, 0}, {1, -1}, {1, most + 1}, {1, math.MaxInt}, {math.MinInt, 1}, {math.MaxInt, 1}, {1, math.MinInt}} {
		refused(t, m, x[0], x[1])
	}
	done(t, m, entry(1, 3, api.Command{}), api.Reply{})
	for _, x := range [][2]int{{1, 3}, {3, 3}, {0, 3}, {2, 2}, {2, 0}, {2, most + 1}} {
		refused(t, m, x[0], x[1])
	}
	done(t, m, entry(2, 3, api.Command{}), api.Reply{})
	done(t, m, entry(3, most, api.Command{}), api.Reply{})
	refused(t, m, 4, most-1)
	done(t, m, entry(4, most, api.Command{}), api.Reply{})
	holds(t, m, 4, most, []int{0}, store.New(), session.New())
}

// P9.2: the last index of all.
func TestApplyLast(t *testing.T) {
	m, e := machine.Load(inside(most-1, most, []int{0}, store.New().Image(), session.New().Image()))
	if e != api.OK {
		t.Fatal(e)
	}
	done(t, m, entry(most, most, api.Command{Kind: api.COpen}), api.Reply{Session: most})
	refused(t, m, most+1, most)
	refused(t, m, most, most)
}

// P9.2: what no command's bytes are is answered by ErrCommand; the entry is done nonetheless.
func TestApplyNoCommand(t *testing.T) {
	m := fresh(t, 0, 1)
	next(t, m, api.Command{Kind: api.COpen}, api.Reply{Session: 1})
	tab := session.New()
	tab.Open(1)
	for i, b := range [][]byte{nil, {}, {6}, {0, 0}, {1, 0}, {3}, {5, 0}, {2, 1, 1, 0}, make([]byte, 5000)} {
		done(t, m, api.Entry{Index: i + 2, Term: 2, Data: b}, err(api.ErrCommand))
		holds(t, m, i+2, 2, []int{0, 1}, store.New(), tab)
	}
}

// P9.2: sessions begin at their entries, as many as may be, and end when they rested.
func TestSessions(t *testing.T) {
	m := fresh(t, 0)
	open := api.Command{Kind: api.COpen}
	next(t, m, api.Command{}, api.Reply{})
	for i := range api.MaxSessions {
		next(t, m, open, api.Reply{Session: i + 2})
	}
	next(t, m, open, err(api.ErrFull))
	next(t, m, ingest(2, 1, at(1, 1, 0, 9)), added(1))
	next(t, m, expire(2), api.Reply{})
	next(t, m, expire(0), api.Reply{})
	next(t, m, expire(5), api.Reply{Gone: 2})
	tab, s := session.New(), store.New()
	for _, id := range []int{2, 5, 6, 7, 8, 9} {
		tab.Open(id)
	}
	s.Ingest(at(1, 1, 0, 9))
	tab.Keep(2, 1, 11, added(1))
	holds(t, m, 14, 1, []int{0}, s, tab)
	next(t, m, open, api.Reply{Session: 15})
	next(t, m, open, api.Reply{Session: 16})
	next(t, m, open, err(api.ErrFull))
	next(t, m, expire(most), api.Reply{Gone: 8})
	holds(t, m, 18, 1, []int{0}, s, session.New())
}

// P9.2: spans are put in once, in a session's turn; what is told is what came of them.
func TestIngest(t *testing.T) {
	m := fresh(t, 0)
	next(t, m, api.Command{Kind: api.COpen}, api.Reply{Session: 1})
	a, b := at(1, 1, 0, 5), at(1, 2, 1, 6)
	next(t, m, ingest(1, 2, a), err(api.ErrGap))
	next(t, m, ingest(2, 1, a), err(api.ErrSession))
	s, tab := store.New(), session.New()
	tab.Open(1)
	holds(t, m, 3, 1, []int{0}, s, tab)
	counts := api.Reply{Counts: api.Counts{Added: 4, Same: 1, Other: 1, Cycle: 1}}
	next(t, m, ingest(1, 1, a, b, a, at(1, 1, 0, 6), at(2, 1, 3, 5), at(2, 3, 1, 5), at(3, 1, 0, 5)), counts)
	s.Ingest(a, b, at(2, 1, 3, 5), at(3, 1, 0, 5))
	tab.Keep(1, 1, 4, counts)
	holds(t, m, 4, 1, []int{0}, s, tab)
	next(t, m, ingest(1, 3, at(9, 9, 0, 9)), err(api.ErrGap))
	next(t, m, ingest(1, 1, at(9, 9, 0, 9)), counts)
	holds(t, m, 6, 1, []int{0}, s, tab)
	next(t, m, ingest(1, 2, a), api.Reply{Counts: api.Counts{Same: 1}})
	next(t, m, ingest(1, 1, at(9, 9, 0, 9)), err(api.ErrOld))
	tab.Keep(1, 2, 7, api.Reply{Counts: api.Counts{Same: 1}})
	holds(t, m, 8, 1, []int{0}, s, tab)
}

// P9.2: where a store has no room, that is counted, and kept.
func TestIngestFull(t *testing.T) {
	m := fresh(t, 0)
	next(t, m, api.Command{Kind: api.COpen}, api.Reply{Session: 1})
	for i := range 4 {
		var l []api.Span
		for j := range 8 {
			l = append(l, at(8*i+j+1, 1, 0, 1))
		}
		next(t, m, ingest(1, i+1, l...), added(8))
	}
	full := api.Reply{Counts: api.Counts{Added: 1, Full: 1}}
	c := ingest(1, 5, at(33, 1, 0, 1), at(1, 2, 0, 2))
	next(t, m, c, full)
	next(t, m, retain(2), api.Reply{Gone: 31})
	next(t, m, c, full)
	if !slices.Equal(m.Traces(), []int{1}) {
		t.Error(m.Traces())
	}
}

// P9.2: traces that ended are let go.
func TestRetain(t *testing.T) {
	m := fresh(t, 0)
	next(t, m, api.Command{Kind: api.COpen}, api.Reply{Session: 1})
	next(t, m, ingest(1, 1, at(1, 1, 0, 5), at(2, 1, 0, 6), at(3, 1, 0, most), at(1, 2, 0, 7)), added(4))
	next(t, m, retain(0), api.Reply{})
	next(t, m, retain(6), api.Reply{})
	next(t, m, retain(7), api.Reply{Gone: 1})
	next(t, m, retain(most), api.Reply{Gone: 1})
	if !slices.Equal(m.Traces(), []int{3}) {
		t.Error(m.Traces())
	}
	next(t, m, retain(most+1), api.Reply{Gone: 1})
	if m.Traces() != nil || len(m.Seats()) != 1 {
		t.Error(m.Traces(), m.Seats())
	}
}

// P9.2: voters are those that were named last.
func TestRoster(t *testing.T) {
	m := fresh(t, 0, 1)
	for _, l := range [][]int{{6}, {0, 1, 2, 3, 4, 5, 6}, {0}} {
		next(t, m, roster(l...), api.Reply{})
		if !slices.Equal(m.Voters(), l) {
			t.Error(m.Voters())
		}
	}
	done(t, m, api.Entry{Index: 4, Term: 1, Data: []byte{5, 2, 1, 0}}, err(api.ErrCommand))
	holds(t, m, 4, 1, []int{0}, store.New(), session.New())
}

// P9.6: what was done is not done again: the answer is the same, and nothing but Index and Term is another one.
func TestOnce(t *testing.T) {
	m := fresh(t, 0)
	next(t, m, api.Command{Kind: api.COpen}, api.Reply{Session: 1})
	next(t, m, api.Command{Kind: api.COpen}, api.Reply{Session: 2})
	c := ingest(1, 1, at(1, 1, 0, 5))
	next(t, m, c, added(1))
	next(t, m, ingest(2, 1, at(1, 1, 0, 5), at(2, 1, 0, 9)), api.Reply{Counts: api.Counts{Added: 1, Same: 1}})
	next(t, m, retain(6), api.Reply{Gone: 1})
	seats, traces := m.Seats(), m.Traces()
	for range 3 {
		done(t, m, entry(m.Index()+1, m.Term()+1, c), added(1))
		if !slices.Equal(m.Seats(), seats) || !slices.Equal(m.Traces(), traces) {
			t.Error(m.Seats(), m.Traces())
		}
	}
	next(t, m, expire(4), api.Reply{Gone: 1})
	next(t, m, c, err(api.ErrSession))
	next(t, m, api.Command{Kind: api.COpen}, api.Reply{Session: 11})
	next(t, m, c, err(api.ErrSession))
}

// P9.7: of a session that ended, or never was, nothing is put in.
func TestEnded(t *testing.T) {
	m := fresh(t, 0)
	next(t, m, api.Command{Kind: api.COpen}, api.Reply{Session: 1})
	next(t, m, expire(2), api.Reply{Gone: 1})
	for _, id := range []int{1, 2, 3, 4, most} {
		for _, seq := range []int{1, 2, most} {
			next(t, m, ingest(id, seq, at(1, 1, 0, 5)), err(api.ErrSession))
		}
	}
	holds(t, m, 17, 1, []int{0}, store.New(), session.New())
}

// P9.2: a kept reply is told as it was kept, whatever it is.
func TestKept(t *testing.T) {
	r := api.Reply{Err: 5, Session: 6, Gone: 7, Counts: api.Counts{Added: 8, Full: 9}}
	tab := session.New()
	tab.Open(3)
	tab.Keep(3, 1, 4, r)
	m, e := machine.Load(inside(4, 2, []int{1}, store.New().Image(), tab.Image()))
	if e != api.OK {
		t.Fatal(e)
	}
	done(t, m, entry(5, 2, ingest(3, 1, at(1, 1, 0, 5))), r)
	holds(t, m, 5, 2, []int{1}, store.New(), tab)
}

// P9.3: a machine's bytes, spelt out.
func TestImage(t *testing.T) {
	m := fresh(t, 1, 4)
	if b := m.Image(); !bytes.Equal(b, []byte{0, 0, 2, 1, 4, 1, 0, 1, 0}) {
		t.Error(b)
	}
	done(t, m, entry(1, 200, api.Command{Kind: api.COpen}), api.Reply{Session: 1})
	done(t, m, entry(2, 200, ingest(1, 1, api.Span{Trace: 1, ID: 2, Start: 5, End: 7, Name: "a"})), added(1))
	want := []byte{2, 0x81, 0x48, 2, 1, 4, 10, 1, 8, 1, 1, 2, 0, 5, 2, 1, 'a', 12, 1, 1, 1, 2, 0, 0, 0, 1, 0, 0, 0, 0}
	if b := m.Image(); !bytes.Equal(b, want) {
		t.Error(b)
	}
	l, e := machine.Load(want)
	if e != api.OK || l.Index() != 2 || l.Term() != 200 || !slices.Equal(l.Voters(), []int{1, 4}) || !slices.Equal(l.Seats(), m.Seats()) || !slices.Equal(l.Lookup(1), m.Lookup(1)) {
		t.Error(e)
	}
}
