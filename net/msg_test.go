package net_test

import (
	"bytes"
	"fmt"
	"math"
	"math/rand"
	"slices"
	"testing"

	"spandrel/api"
	"spandrel/near"
	"spandrel/net"
	"spandrel/raft"
	"spandrel/wire"
)

// most is the greatest number that a message may have.
const most = 1 << 40

// row is entries from an index on, of those terms.
func row(index int, terms ...int) []api.Entry {
	var l []api.Entry
	for i, term := range terms {
		l = append(l, api.Entry{Index: index + i, Term: term, Data: bytes.Repeat([]byte{byte(term)}, i)})
	}
	return l
}

// vote is one that asks for a vote, of a term by which it is told from others.
func vote(term int) api.Msg { return api.Msg{Kind: api.MVote, From: 1, To: 2, Term: term} }

// some is messages that may be: of each kind, and at the edges of what they may have.
func some() []api.Msg {
	long := row(most-7, 1, 1, 1, 1, 1, 1, 1, 1)
	for i := range long {
		long[i].Data = bytes.Repeat([]byte{0x5d}, api.MaxData)
	}
	return []api.Msg{
		vote(1),
		{Kind: api.MVote, From: 0, To: 6, Term: 3, Index: 7, LogTerm: 2, Commit: 1, Round: 4},
		{Kind: api.MVoted, From: 1, To: 5, Term: 300, Yes: true},
		{Kind: api.MVoted, From: 6, To: 0, Term: most, Index: most, LogTerm: most, Commit: most, Round: most, Yes: true, Done: true},
		{Kind: api.MAppend, From: 2, To: 4, Term: 3},
		{Kind: api.MAppend, From: 2, To: 4, Term: 3, Index: 7, LogTerm: 2, Commit: 9, Round: 4, Entries: row(8, 2, 2, 3)},
		{Kind: api.MAppend, From: 2, To: 4, Term: 3, Entries: row(1, 1, 3), Done: true},
		{Kind: api.MAppend, From: 2, To: 4, Term: most, Index: most - 8, LogTerm: 1, Commit: 200, Entries: long},
		{Kind: api.MAppended, From: 3, To: 2, Term: 3, Index: 128, Round: 4},
		{Kind: api.MInstall, From: 4, To: 1, Term: 3, Index: 7, LogTerm: 2, Commit: 512, Round: 4, Voters: []int{0, 1, 6}, Data: []byte("a piece")},
		{Kind: api.MInstall, From: 4, To: 1, Term: 3, Index: 7, LogTerm: 3, Done: true, Voters: []int{0, 1, 2, 3, 4, 5, 6}, Data: make([]byte, api.Chunk)},
		{Kind: api.MInstall, From: 4, To: 1, Term: 3, Index: 7, LogTerm: 2, Voters: []int{5}},
		{Kind: api.MInstalled, From: 5, To: 0, Term: 3, Index: 7, Commit: 512, Round: 4, Done: true},
	}
}

// inside is a message's payload, put together here.
func inside(m api.Msg) []byte {
	var parts [][]byte
	put := func(l ...int) {
		for _, n := range l {
			parts = append(parts, wire.Number(nil, n))
		}
	}
	text := func(b []byte) {
		put(len(b))
		parts = append(parts, b)
	}
	put(m.Kind, m.From, m.To, m.Term, m.Index, m.LogTerm, m.Commit, m.Round)
	parts = append(parts, wire.Flag(nil, m.Yes), wire.Flag(nil, m.Done))
	put(len(m.Entries))
	for _, e := range m.Entries {
		put(e.Term)
		text(e.Data)
	}
	put(len(m.Voters))
	put(m.Voters...)
	text(m.Data)
	return wire.Join(parts...)
}

// rec is a payload's record.
func rec(p []byte) []byte {
	b, _ := wire.Record(p)
	return b
}

// is fails unless two messages are the same.
func is(t *testing.T, m, right api.Msg) {
	t.Helper()
	if fmt.Sprint(m) != fmt.Sprint(right) {
		t.Fatalf("%.300v\nnot %.300v", m, right)
	}
}

// nothing fails unless bytes are no message's, for that reason.
func nothing(t *testing.T, b []byte, right api.Errno) {
	t.Helper()
	m, e := net.Get(b)
	if e != right {
		t.Errorf("% x: %v, not %v", b[:min(len(b), 40)], e, right)
	}
	is(t, m, api.Msg{})
}

// P13.1: each field at its place.
func TestBytes(t *testing.T) {
	for _, x := range []struct {
		m api.Msg
		p []byte
	}{
		{api.Msg{Kind: api.MVoted, From: 1, To: 5, Term: 300, Yes: true}, []byte{2, 1, 5, 0x82, 0x2c, 0, 0, 0, 0, 1, 0, 0, 0, 0}},
		{api.Msg{Kind: api.MInstalled, From: 6, To: 0, Term: 3, Index: 7, LogTerm: 2, Commit: 1, Round: 9, Done: true}, []byte{6, 6, 0, 3, 7, 2, 1, 9, 0, 1, 0, 0, 0}},
		{
			api.Msg{Kind: api.MAppend, From: 2, To: 4, Term: 5, Index: 7, LogTerm: 3, Commit: 6, Entries: []api.Entry{{Index: 8, Term: 4, Data: []byte("ab")}, {Index: 9, Term: 5}}},
			[]byte{3, 2, 4, 5, 7, 3, 6, 0, 0, 0, 2, 4, 2, 'a', 'b', 5, 0, 0, 0},
		},
		{
			api.Msg{Kind: api.MInstall, From: 2, To: 4, Term: 5, Index: 7, LogTerm: 3, Voters: []int{0, 3, 6}, Data: []byte("xyz")},
			[]byte{5, 2, 4, 5, 7, 3, 0, 0, 0, 0, 0, 3, 0, 3, 6, 3, 'x', 'y', 'z'},
		},
	} {
		if b, e := net.Put(x.m); e != api.OK || !bytes.Equal(b, rec(x.p)) {
			t.Errorf("%v: %v, % x", x.m, e, b)
		}
		m, e := net.Get(rec(x.p))
		if e != api.OK {
			t.Error(x.m, e)
		}
		is(t, m, x.m)
	}
}

// P13.1, P13.4: there and back.
func TestBack(t *testing.T) {
	for _, m := range some() {
		b, e := net.Put(m)
		if e != api.OK || !bytes.Equal(b, rec(inside(m))) {
			t.Fatalf("%.300v: %v", m, e)
		}
		again, e := net.Get(b)
		if e != api.OK {
			t.Fatalf("%.300v: %v", m, e)
		}
		is(t, again, m)
	}
}

// P13.1: lists that are empty are like those that are nil.
func TestEmptyLists(t *testing.T) {
	m := vote(3)
	nils, _ := net.Put(m)
	m.Entries, m.Voters, m.Data = []api.Entry{}, []int{}, []byte{}
	if b, e := net.Put(m); e != api.OK || !bytes.Equal(b, nils) {
		t.Error(e, b)
	}
	m = api.Msg{Kind: api.MAppend, To: 1, Term: 1, Entries: []api.Entry{{Index: 1, Term: 1, Data: []byte{}}}}
	b, e := net.Put(m)
	if m.Entries[0].Data = nil; e != api.OK || !bytes.Equal(b, rec(inside(m))) {
		t.Error(e, b)
	}
}

// bad is messages that may not be, which have bytes nevertheless.
func bad() []api.Msg {
	var l []api.Msg
	for _, m := range some() {
		for _, change := range []func(m *api.Msg){
			func(m *api.Msg) { m.Kind = 0 },
			func(m *api.Msg) { m.Kind = 7 },
			func(m *api.Msg) { m.From = m.To },
			func(m *api.Msg) { m.To = 7 },
			func(m *api.Msg) { m.Term = 0 },
			func(m *api.Msg) { m.Term = most + 1 },
			func(m *api.Msg) { m.Index = math.MaxInt },
			func(m *api.Msg) { m.LogTerm = most + 1 },
			func(m *api.Msg) { m.Commit = most + 1 },
			func(m *api.Msg) { m.Round = math.MaxInt },
			func(m *api.Msg) { m.Entries, m.Voters = row(m.Index+1, 1), []int{1} },
			func(m *api.Msg) { m.Entries, m.Data = row(m.Index+1, 1), []byte{1} },
			func(m *api.Msg) { m.Voters = []int{2, 1} },
			func(m *api.Msg) { m.Voters = []int{0, 1, 2, 3, 4, 5, 6, 7} },
			func(m *api.Msg) { m.Data = make([]byte, api.Chunk+1) },
		} {
			other := m
			change(&other)
			l = append(l, other)
		}
	}
	m := api.Msg{Kind: api.MAppend, To: 1, Term: 3, Index: 7, LogTerm: 2}
	for _, entries := range [][]api.Entry{row(8, 1), row(8, 4), row(8, 3, 2), row(8, 2, 2, 2, 2, 2, 2, 2, 2, 2), {{Index: 8, Term: 2, Data: make([]byte, api.MaxData+1)}}} {
		m.Entries = entries
		l = append(l, m)
	}
	m.Index, m.Entries = most, row(most+1, 3)
	return append(l, m, api.Msg{}, api.Msg{Kind: api.MAppend, To: 1, Term: 3, Index: 7}, api.Msg{Kind: api.MInstall, To: 1, Term: 3, Index: 7, LogTerm: 2})
}

// P13.1: what may not be has no bytes, and is not read.
func TestBad(t *testing.T) {
	for _, m := range bad() {
		if b, e := net.Put(m); e != api.ErrMsg || b != nil {
			t.Errorf("%.300v: %v", m, e)
		}
		nothing(t, rec(inside(m)), api.ErrMsg)
	}
	// No bytes tell numbers below 0, nor entries of other indices.
	for _, m := range []api.Msg{
		{Kind: -1, To: 1, Term: 1}, {Kind: api.MVote, From: -1, Term: 1}, {Kind: api.MVote, To: 1, Term: -1}, {Kind: api.MVote, To: 1, Term: 1, Round: math.MinInt},
		{Kind: api.MAppend, To: 1, Term: 3, Entries: row(2, 1)}, {Kind: api.MAppend, To: 1, Term: 3, Index: 7, LogTerm: 2, Entries: append(row(8, 2), row(10, 2)...)},
	} {
		if b, e := net.Put(m); e != api.ErrMsg || b != nil {
			t.Errorf("%v: %v", m, e)
		}
	}
}

// P13.1: wire's errors, ahead of ErrMore, ahead of ErrMsg.
func TestGetErrors(t *testing.T) {
	good := rec(inside(vote(3)))
	turned := bytes.Clone(good)
	turned[4]++
	for _, x := range []struct {
		b []byte
		e api.Errno
	}{
		{nil, api.ErrShort},
		{[]byte{}, api.ErrShort},
		{[]byte{0x5c}, api.ErrForm},
		{inside(vote(3)), api.ErrForm},
		{good[:len(good)-1], api.ErrShort},
		{[]byte{0x5d, 0x80, 1}, api.ErrForm},
		{wire.Join([]byte{0x5d}, bytes.Repeat([]byte{255}, 10)), api.ErrRange},
		{wire.Number([]byte{0x5d}, api.MaxFrame+1), api.ErrLong},
		{turned, api.ErrSum},
		{wire.Join(turned, []byte{0}), api.ErrSum},
		{wire.Join(good, []byte{0}), api.ErrMore},
		{wire.Join(good, good), api.ErrMore},
		{wire.Join(rec(nil), []byte{0}), api.ErrMore},
		{rec(nil), api.ErrMsg},
		{rec([]byte("no message")), api.ErrMsg},
		{rec(make([]byte, api.MaxFrame)), api.ErrMsg},
		{rec(bytes.Repeat([]byte{255}, api.MaxFrame)), api.ErrMsg},
	} {
		nothing(t, x.b, x.e)
	}
}

// P13.1: payloads that are nearly a message's.
func TestGetForms(t *testing.T) {
	head := []byte{3, 2, 4, 5, 7, 3, 6, 0, 0, 0}
	huge := wire.Number(nil, math.MaxInt)
	for _, behind := range [][]byte{
		{0, 0}, {0, 0, 0, 0}, {0, 0, 1}, {1, 4, 0, 0}, {1, 4, 2, 'a', 0, 0}, {2, 4, 0, 0, 0}, {9, 3, 0, 3, 0, 3, 0, 3, 0, 3, 0, 3, 0, 3, 0, 3, 0, 3, 0, 0, 0},
		wire.Join(huge, []byte{0, 0}), wire.Join([]byte{0}, huge, []byte{0}), wire.Join([]byte{0, 0}, huge), wire.Join([]byte{1, 4}, huge, []byte{0, 0}),
		{0x80, 0, 0, 0}, {0, 0x80, 0, 0}, {0, 0, 0x80, 0},
	} {
		nothing(t, rec(wire.Join(head, behind)), api.ErrMsg)
	}
	for _, p := range [][]byte{
		{2, 1, 5, 3, 0, 0, 0, 0, 2, 0, 0, 0, 0}, {2, 1, 5, 3, 0, 0, 0, 0, 0, 2, 0, 0, 0},
		wire.Join([]byte{5, 2, 4, 5, 7, 3, 0, 0, 0, 0, 0}, huge, []byte{0, 3, 6, 0}), {5, 2, 4, 5, 7, 3, 0, 0, 0, 0, 0, 8, 0, 1, 2, 3, 4, 5, 6, 7, 0},
		wire.Join([]byte{3, 2, 4, 5}, huge, []byte{3, 6, 0, 0, 0, 1, 4, 0, 0, 0}),
	} {
		nothing(t, rec(p), api.ErrMsg)
	}
}

// P13.1, P13.4: a payload that is cut off, or has another byte or one more, is no message's, or another one's own.
func TestOneForm(t *testing.T) {
	for _, m := range []api.Msg{
		{Kind: api.MVoted, From: 1, To: 5, Term: 300, Yes: true},
		{Kind: api.MAppend, From: 2, To: 4, Term: 5, Index: 7, LogTerm: 3, Entries: row(8, 3, 4)},
		{Kind: api.MInstall, From: 2, To: 4, Term: 5, Index: 7, LogTerm: 3, Voters: []int{0, 3}, Data: []byte("xyz")},
	} {
		for _, stray := range near.Strays(inside(m), api.ErrMsg, func(p []byte) ([]byte, api.Errno) {
			m, e := net.Get(rec(p))
			return inside(m), e
		}) {
			t.Errorf("% x", stray)
		}
	}
}

// P13.6: one other byte behind the record's head is seen.
func TestTurned(t *testing.T) {
	for _, m := range some() {
		b, _ := net.Put(m)
		if len(b) > 1000 {
			continue
		}
		for i := len(b) - len(inside(m)) - 4; i < len(b); i++ {
			for d := 1; d < 256; d++ {
				turned := bytes.Clone(b)
				turned[i] ^= byte(d)
				nothing(t, turned, api.ErrSum)
			}
		}
	}
}

// drawn is a message that mostly may be.
func drawn(r *rand.Rand) api.Msg {
	m := api.Msg{Kind: 1 + r.Intn(6), From: r.Intn(7), To: r.Intn(7), Term: 1 + r.Intn(300), Index: r.Intn(300), Commit: r.Intn(1000), Round: r.Intn(200)}
	m.LogTerm = min(m.Index, 1+r.Intn(m.Term))
	m.Yes, m.Done = r.Intn(2) == 0, r.Intn(2) == 0
	switch m.Kind {
	case api.MAppend:
		for i := range r.Intn(10) {
			b := make([]byte, r.Intn(200))
			r.Read(b)
			m.Entries = append(m.Entries, api.Entry{Index: m.Index + 1 + i, Term: max(1, m.LogTerm), Data: b})
		}
	case api.MInstall:
		m.Voters = slices.DeleteFunc([]int{0, 1, 2, 3, 4, 5, 6}, func(int) bool { return r.Intn(2) == 0 })
		m.Data = make([]byte, r.Intn(520))
		r.Read(m.Data)
	}
	return m
}

// P13.1, P13.4: random messages.
func TestRandomMessages(t *testing.T) {
	r := rand.New(rand.NewSource(1))
	good := 0
	for range 3000 {
		m := drawn(r)
		b, e := net.Put(m)
		if right := raft.Check(m); e != right {
			t.Fatal(e, right)
		}
		if e != api.OK {
			continue
		}
		good++
		again, e := net.Get(b)
		if e != api.OK || !bytes.Equal(b, rec(inside(m))) {
			t.Fatal(e, m)
		}
		is(t, again, m)
	}
	if good < 1000 {
		t.Error("too few may be:", good)
	}
}

// roomy is a message with room behind all lists, in which something stands.
func roomy(m api.Msg) api.Msg {
	var l []api.Entry
	for _, e := range m.Entries {
		e.Data = append(bytes.Clone(e.Data), 91, 92)[:len(e.Data)]
		l = append(l, e)
	}
	m.Entries = append(l, api.Entry{Index: 91, Data: []byte{91}})[:len(l)]
	m.Voters = append(slices.Clone(m.Voters), 91, 92)[:len(m.Voters)]
	m.Data = append(bytes.Clone(m.Data), 91, 92)[:len(m.Data)]
	return m
}

// spoil writes over all that a message's lists have, the room behind their ends included.
func spoil(m api.Msg) {
	for _, e := range m.Entries[:cap(m.Entries)] {
		clear(e.Data[:cap(e.Data)])
	}
	clear(m.Entries[:cap(m.Entries)])
	clear(m.Voters[:cap(m.Voters)])
	clear(m.Data[:cap(m.Data)])
}

// whole is a message with what stands behind its lists' ends.
func whole(m api.Msg) string {
	text := fmt.Sprint(m, m.Entries[:cap(m.Entries)], m.Voters[:cap(m.Voters)], m.Data[:cap(m.Data)])
	for _, e := range m.Entries {
		text += fmt.Sprint(e.Data[:cap(e.Data)])
	}
	return text
}

// DOC.md, Memory: what is handed in stays as it was, and answers are new.
func TestMessageMemory(t *testing.T) {
	for i, right := range some() {
		m := roomy(right)
		was := whole(m)
		b, _ := net.Put(m)
		if whole(m) != was {
			t.Fatal(i, "has changed")
		}
		spoil(m)
		if !bytes.Equal(b, rec(inside(right))) {
			t.Fatal(i, "is kept")
		}
		given := append(bytes.Clone(b), 91, 92)
		one, _ := net.Get(given[:len(b)])
		other, _ := net.Get(given[:len(b)])
		if !bytes.Equal(given[:len(b)], b) || given[len(b)] != 91 {
			t.Fatal(i, "its bytes have changed")
		}
		clear(given)
		is(t, one, right)
		spoil(one)
		is(t, other, right)
	}
}
