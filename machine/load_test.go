package machine_test

import (
	"bytes"
	"math"
	"math/rand"
	"slices"
	"testing"

	"spandrel/api"
	"spandrel/machine"
	"spandrel/near"
	"spandrel/session"
	"spandrel/store"
	"spandrel/wire"
)

// seat is the image of a table with a session.
func seat(id, at int) []byte {
	b := []byte{1}
	for _, n := range []int{id, 0, at, 0, 0, 0, 0, 0, 0, 0, 0} {
		b = wire.Number(b, n)
	}
	return b
}

// none is the image of a store without traces, or of a table without sessions.
var none = []byte{0}

// P9.3: bytes that are a machine's: its numbers at their edges.
func TestLoad(t *testing.T) {
	s := store.New()
	s.Ingest(at(1, 1, 0, 5))
	for _, b := range [][]byte{
		inside(0, 0, []int{0}, none, none),
		inside(1, 1, []int{0, 1, 2, 3, 4, 5, 6}, none, none),
		inside(1, most, []int{6}, none, none),
		inside(most, 1, []int{6}, s.Image(), seat(most, most)),
		inside(5, 9, []int{6}, s.Image(), seat(5, 5)),
		inside(5, 9, []int{6}, none, seat(5, 1)),
		inside(5, 9, []int{6}, none, seat(1, 5)),
		inside(0, 0, []int{0}, s.Image(), none),
	} {
		m, e := machine.Load(b)
		if e != api.OK || !bytes.Equal(m.Image(), b) {
			t.Error(b, e)
		}
	}
}

// P9.3: bytes that are no machine's.
func TestLoadRefuses(t *testing.T) {
	good := inside(5, 9, []int{0, 1}, none, seat(3, 4))
	many := []byte{5, 9, 9, 0, 1, 2, 3, 4, 5, 6, 1, 0, 1, 0}
	for name, b := range map[string][]byte{
		"nothing":                  nil,
		"empty":                    {},
		"further bytes":            append(bytes.Clone(good), 0),
		"a long number":            append([]byte{0x80}, good...),
		"no number":                bytes.Repeat([]byte{0xff}, 12),
		"an index without a term":  inside(5, 0, []int{0}, none, none),
		"a term without an index":  inside(0, 5, []int{0}, none, none),
		"too great an index":       inside(most+1, 5, []int{0}, none, none),
		"too great a term":         inside(5, most+1, []int{0}, none, none),
		"nobody votes":             inside(5, 5, nil, none, none),
		"7 votes":                  inside(5, 5, []int{7}, none, none),
		"voters fall":              inside(5, 5, []int{1, 0}, none, none),
		"one votes twice":          inside(5, 5, []int{1, 1}, none, none),
		"eight vote":               inside(5, 5, []int{0, 1, 2, 3, 4, 5, 6, 7}, none, none),
		"more voters than named":   many,
		"a huge number of voters":  wire.Join([]byte{5, 9}, wire.Number(nil, math.MaxInt), many[3:]),
		"a session above":          inside(5, 9, []int{0}, none, seat(6, 5)),
		"a session that did above": inside(5, 9, []int{0}, none, seat(5, 6)),
		"a session ahead of all":   inside(0, 0, []int{0}, none, seat(1, 1)),
		"no store":                 inside(5, 9, []int{0}, []byte{1}, none),
		"an empty store":           inside(5, 9, []int{0}, nil, none),
		"a store and more":         inside(5, 9, []int{0}, []byte{0, 0}, none),
		"no table":                 inside(5, 9, []int{0}, none, []byte{1}),
		"an empty table":           inside(5, 9, []int{0}, none, nil),
		"a table and more":         inside(5, 9, []int{0}, none, []byte{0, 0}),
		"a text too few":           {5, 9, 1, 0, 1, 0},
	} {
		if m, e := machine.Load(b); m != nil || e != api.ErrStore {
			t.Error(name, e)
		}
	}
}

// P9.3, P9.4: an image that is cut off, or has another byte or one more, is none, or another machine's own.
func TestLoadTurned(t *testing.T) {
	m := fresh(t, 0, 3)
	next(t, m, api.Command{Kind: api.COpen}, api.Reply{Session: 1})
	next(t, m, ingest(1, 1, at(1, 1, 0, 5), at(1, 2, 1, 200), at(200, 1, 0, 7)), added(3))
	next(t, m, api.Command{Kind: api.COpen}, api.Reply{Session: 3})
	b := m.Image()
	for _, stray := range near.Strays(b, api.ErrStore, func(b []byte) ([]byte, api.Errno) {
		m, e := machine.Load(b)
		return m.Image(), e
	}) {
		t.Error(stray)
	}
}

// P9.3: a clone and a machine that was loaded go their own way.
func TestApart(t *testing.T) {
	m := fresh(t, 0, 1)
	next(t, m, api.Command{Kind: api.COpen}, api.Reply{Session: 1})
	next(t, m, ingest(1, 1, at(1, 1, 0, 5)), added(1))
	c := m.Clone()
	l, e := machine.Load(m.Image())
	if e != api.OK {
		t.Fatal(e)
	}
	next(t, m, ingest(1, 2, at(1, 2, 1, 5)), added(1))
	next(t, c, expire(9), api.Reply{Gone: 1})
	next(t, l, retain(9), api.Reply{Gone: 1})
	next(t, l, roster(0, 1, 2), api.Reply{})
	if len(m.Lookup(1)) != 2 || len(c.Lookup(1)) != 1 || len(l.Lookup(1)) != 0 {
		t.Error(m.Lookup(1), c.Lookup(1), l.Lookup(1))
	}
	if m.Seats()[0].Seq != 2 || len(c.Seats()) != 0 || l.Seats()[0].Seq != 1 {
		t.Error(m.Seats(), c.Seats(), l.Seats())
	}
	if m.Index() != 3 || c.Index() != 3 || l.Index() != 4 || !slices.Equal(m.Voters(), []int{0, 1}) || !slices.Equal(c.Voters(), []int{0, 1}) {
		t.Error(m.Index(), c.Index(), l.Index(), m.Voters(), c.Voters())
	}
}

// DOC.md, Memory: what is handed in is neither changed nor kept, and answers are new.
func TestMemory(t *testing.T) {
	voters := []int{0, 1, 2}
	m := fresh(t, voters...)
	clear(voters)
	if !slices.Equal(m.Voters(), []int{0, 1, 2}) {
		t.Fatal(m.Voters())
	}
	next(t, m, api.Command{Kind: api.COpen}, api.Reply{Session: 1})
	for _, c := range []api.Command{ingest(1, 1, at(1, 1, 0, 5)), roster(0, 1, 6)} {
		x := entry(m.Index()+1, 1, c)
		given := bytes.Clone(x.Data)
		m.Apply(x)
		if !bytes.Equal(x.Data, given) {
			t.Fatal(x.Data)
		}
		clear(x.Data[:cap(x.Data)])
	}
	b := m.Image()
	given := bytes.Clone(b)
	l, _ := machine.Load(b)
	clear(b[:cap(b)])
	for _, m := range []*machine.Machine{m, l, m.Clone()} {
		v, tr, s, lo := m.Voters(), m.Traces(), m.Seats(), m.Lookup(1)
		clear(v[:cap(v)])
		clear(tr[:cap(tr)])
		clear(s[:cap(s)])
		clear(lo[:cap(lo)])
		if !bytes.Equal(m.Image(), given) {
			t.Error(m.Image())
		}
	}
}

// P9.3; DOC.md, Objects: machines that no call made.
func TestNoMachine(t *testing.T) {
	for _, m := range []*machine.Machine{nil, {}} {
		for _, x := range []api.Entry{{}, {Index: 1, Term: 1, Data: []byte{0}}} {
			if r, e := m.Apply(x); e != api.ErrNil || r != (api.Reply{}) {
				t.Error(r, e)
			}
		}
		if m.Index() != 0 || m.Term() != 0 || m.Voters() != nil || m.Lookup(1) != nil || m.Traces() != nil || m.Seats() != nil || m.Image() != nil || m.Clone() != nil {
			t.Error("a machine that no call made tells something")
		}
	}
}

// plain is a machine as chapter 9 tells it, part by part.
type plain struct {
	index, term int
	voters      []int
	s           *store.Store
	t           *session.Table
}

// apply does a command that may be, or none where it is refused.
func (p *plain) apply(index, term int, c api.Command) (r api.Reply) {
	p.index, p.term = index, term
	switch {
	case machine.Check(c) != api.OK:
		r.Err = api.ErrCommand
	case c.Kind == api.COpen:
		if r.Err = p.t.Open(index); r.Err == api.OK {
			r.Session = index
		}
	case c.Kind == api.CIngest:
		kept, done, e := p.t.Ask(c.Session, c.Seq)
		if r.Err = e; done {
			return kept
		} else if e == api.OK {
			r.Counts, _ = p.s.Ingest(c.Spans...)
			p.t.Keep(c.Session, c.Seq, index, r)
		}
	case c.Kind == api.CExpire:
		r.Gone = p.t.Expire(c.At)
	case c.Kind == api.CRetain:
		r.Gone = p.s.Retain(c.At)
	case c.Kind == api.CRoster:
		p.voters = c.Voters
	}
	return r
}

// some is a command drawn at random, which now and then can't be.
func some(r *rand.Rand, index int) api.Command {
	switch r.Intn(14) {
	case 0:
		return api.Command{Kind: r.Intn(7)}
	case 1, 2:
		return api.Command{Kind: api.COpen}
	case 3:
		return expire(max(0, index-r.Intn(60)))
	case 4:
		return retain(r.Intn(12))
	case 5:
		return roster(slices.DeleteFunc([]int{0, 1, 2, 3, 4, 5, 6}, func(int) bool { return r.Intn(2) == 0 })...)
	}
	l := make([]api.Span, r.Intn(10))
	for i := range l {
		l[i] = at(1+r.Intn(40), 1+r.Intn(5), 10*r.Intn(2), r.Intn(12))
	}
	return ingest(1+r.Intn(max(1, index)), 1+r.Intn(3), l...)
}

// P9.2 to P9.8: random entries, held against the chapter's parts; machines that go on from images and clones have the same.
func TestRandom(t *testing.T) {
	for seed := range 12 {
		r := rand.New(rand.NewSource(int64(seed)))
		m, other := fresh(t, 0, 1, 2), fresh(t, 0, 1, 2)
		p := plain{voters: []int{0, 1, 2}, s: store.New(), t: session.New()}
		for range 300 {
			c := some(r, p.index)
			if seats := m.Seats(); c.Kind == api.CIngest && len(seats) > 0 && r.Intn(4) > 0 {
				s := seats[r.Intn(len(seats))]
				c.Session, c.Seq = s.Session, max(1, s.Seq+1-r.Intn(4)/2)
			}
			index, term := p.index+1, max(1, p.term+r.Intn(9)/8)
			switch r.Intn(40) {
			case 0:
				refused(t, m, index-1, term)
			case 1:
				refused(t, m, index+1, term)
			case 2:
				refused(t, m, index, p.term-1)
			}
			want := p.apply(index, term, c)
			done(t, m, entry(index, term, c), want)
			done(t, other, entry(index, term, c), want)
			holds(t, m, p.index, p.term, p.voters, p.s, p.t)
			if !bytes.Equal(m.Image(), other.Image()) {
				t.Fatal("they do not agree")
			}
			m = another(t, m, r)
		}
	}
}

// another is a machine in another way now and then: a clone, or loaded.
func another(t *testing.T, m *machine.Machine, r *rand.Rand) *machine.Machine {
	t.Helper()
	switch r.Intn(10) {
	case 0:
		return m.Clone()
	case 1:
		l, e := machine.Load(m.Image())
		if e != api.OK {
			t.Fatal(e)
		}
		return l
	}
	return m
}
