package raft_test

import (
	"fmt"
	"math/rand"
	"slices"
	"testing"

	"spandrel/api"
	"spandrel/ledger"
	"spandrel/raft"
	"spandrel/roster"
)

// drawer draws inputs for a node, near what that has.
type drawer struct {
	*rand.Rand
	v api.View
}

// one is one of some.
func one[T any](d drawer, l ...T) T { return l[d.Intn(len(l))] }

// termAt is the term of what the node has at an index, mostly; else any.
func (d drawer) termAt(index int) int {
	at := index - d.v.Index - 1
	switch {
	case d.Intn(8) == 0:
		return d.Intn(d.v.Hard.Term + 2)
	case index == d.v.Index:
		return d.v.Term
	case at >= 0 && at < len(d.v.Entries):
		return d.v.Entries[at].Term
	}
	return min(max(0, index), d.v.Hard.Term)
}

// index is one near the node's.
func (d drawer) index() int {
	last := d.v.Index + len(d.v.Entries)
	return max(0, one(d, last, last, d.v.Commit, d.v.Index, d.v.Index-1+d.Intn(len(d.v.Entries)+4)))
}

// voters is some.
func (d drawer) voters() []int {
	n := d.Intn(api.MaxNodes)
	return one(d, roster.Join(d.v.Voters, n), roster.Join(d.v.Voters, n), roster.Leave(d.v.Voters, n), []int{0}, []int{0, 1}, []int{n}, []int{n, 0})
}

// bytes is a command's, mostly.
func (d drawer) bytes() []byte {
	l := d.voters()
	if roster.Check(l...) != api.OK || d.Intn(3) > 0 {
		return one(d, open(), retain(d.Intn(300)), none(), nil, []byte{9, 9})
	}
	return votes(l...)
}

// entries is some that go on, at first mostly those that the node has.
func (d drawer) entries(index, term int) []api.Entry {
	var l []api.Entry
	turn := d.Intn(8)
	for i := range d.Intn(9) {
		was := d.termAt(index + 1 + i)
		if i < turn && was >= term {
			term = was
		} else {
			term = max(1, term+d.Intn(2))
		}
		l = append(l, api.Entry{Index: index + 1 + i, Term: term, Data: d.bytes()})
	}
	return l
}

// msg is a message that mostly may be.
func (d drawer) msg() api.Msg {
	term := d.v.Hard.Term
	m := api.Msg{Kind: 1 + d.Intn(6), From: d.Intn(7), To: d.v.ID, Term: max(1, one(d, term, term, term, term, term, term-1, term+1)), Index: d.index(), Round: d.Intn(5)}
	if d.v.Role == api.Candidate && d.Intn(2) == 0 {
		m.Kind = api.MVoted
	}
	m.LogTerm = min(d.termAt(m.Index), m.Term)
	m.Yes, m.Done = d.Intn(2) == 0, d.Intn(3) == 0
	m.Commit = one(d, d.index(), 0, 512, 1000)
	switch m.Kind {
	case api.MVoted:
		m.From = d.v.Voters[d.Intn(len(d.v.Voters))]
	case api.MAppended, api.MInstalled:
		m.Commit = one(d, 0, 5, 512, 600, 2000)
	case api.MAppend:
		m.Entries = d.entries(m.Index, m.LogTerm)
	case api.MInstall:
		m.Index += d.Intn(3)
		m.Voters, m.Data = d.voters(), data(d.Intn(513))
		m.Commit = one(d, 0, 0, len(m.Data), 512)
	}
	if d.Intn(30) == 0 {
		m.Index, m.To = m.Index-d.Intn(9), d.Intn(8)
	}
	return m
}

// input is one of any kind.
func (d drawer) input() api.Input {
	in := api.Input{Kind: 1 + d.Intn(6), Timeout: d.Intn(5)}
	if d.Intn(2) == 0 {
		in.Kind = api.IMsg
	}
	switch in.Kind {
	case api.IMsg:
		in.Msg = d.msg()
	case api.IPropose:
		in.Data = d.bytes()
	case api.IRoster:
		in.Voters = d.voters()
	case api.IRead:
		in.ID = d.Intn(9) - 4
	case api.IPack:
		in.Index = d.index()
		in.Data = data(d.Intn(1500))
		if d.Intn(4) > 0 {
			in.Kind = api.ITick
		}
	}
	return in
}

// roomyBytes, roomyInts and roomyEntries are lists of their own, with something in the room behind the end.
func roomyBytes(b []byte) []byte { return append(slices.Clone(b), 91, 92, 93)[:len(b)] }
func roomyInts(l []int) []int    { return append(slices.Clone(l), 91, 92, 93)[:len(l)] }
func roomyEntries(l []api.Entry) []api.Entry {
	var all []api.Entry
	for _, e := range l {
		e.Data = roomyBytes(e.Data)
		all = append(all, e)
	}
	return append(all, api.Entry{Index: 91}, api.Entry{Index: 92})[:len(l)]
}

// roomy is an input like another one, with room behind all lists.
func roomy(in api.Input) api.Input {
	in.Data, in.Voters = roomyBytes(in.Data), roomyInts(in.Voters)
	in.Msg.Data, in.Msg.Voters, in.Msg.Entries = roomyBytes(in.Msg.Data), roomyInts(in.Msg.Voters), roomyEntries(in.Msg.Entries)
	return in
}

// wholeOf is a list with the room behind its end.
func wholeOf[T any](l []T) []T { return l[:cap(l)] }

// lists is all lists that something has, with the room behind their ends.
type lists struct {
	bytes   [][]byte
	ints    [][]int
	entries [][]api.Entry
}

func (x *lists) addBytes(b []byte) { x.bytes = append(x.bytes, wholeOf(b)) }
func (x *lists) addInts(l []int)   { x.ints = append(x.ints, wholeOf(l)) }
func (x *lists) addEntries(l []api.Entry) {
	for _, e := range wholeOf(l) {
		x.addBytes(e.Data)
	}
	x.entries = append(x.entries, wholeOf(l))
}

// ofInput, ofOutput and ofView are all lists of these; what an answer has beside lists is written over at once.
func ofInput(in api.Input) *lists {
	x := &lists{}
	x.addBytes(in.Data)
	x.addInts(in.Voters)
	x.addMsg(in.Msg)
	return x
}

func (x *lists) addMsg(m api.Msg) {
	x.addBytes(m.Data)
	x.addInts(m.Voters)
	x.addEntries(m.Entries)
}

func ofOutput(o api.Output) *lists {
	x := &lists{}
	if o.Snap != nil {
		x.addBytes(o.Snap.Data)
		x.addInts(o.Snap.Voters)
		o.Snap.Index = -7
	}
	if o.Hard != nil {
		o.Hard.Term = -7
	}
	x.addEntries(o.Entries)
	x.addEntries(o.Apply)
	for _, m := range wholeOf(o.Send) {
		x.addMsg(m)
	}
	clear(wholeOf(o.Send))
	clear(wholeOf(o.Reads))
	return x
}

func ofView(v api.View) *lists {
	x := &lists{}
	x.addInts(v.Voters)
	x.addEntries(v.Entries)
	return x
}

// spoil writes over all lists; it fails if two of them share something.
func (x *lists) spoil(t *testing.T) {
	t.Helper()
	for i, l := range x.bytes {
		for j := range l {
			l[j] = byte(i)
		}
	}
	for i, l := range x.ints {
		for j := range l {
			l[j] = -i
		}
	}
	for i, l := range x.entries {
		for j := range l {
			l[j] = api.Entry{Index: -i}
		}
	}
	for i, l := range x.bytes {
		if slices.ContainsFunc(l, func(b byte) bool { return b != byte(i) }) {
			t.Fatal("bytes are shared")
		}
	}
	for i, l := range x.ints {
		if slices.ContainsFunc(l, func(n int) bool { return n != -i }) {
			t.Fatal("numbers are shared")
		}
	}
	for i, l := range x.entries {
		if slices.ContainsFunc(l, func(e api.Entry) bool { return e.Index != -i }) {
			t.Fatal("entries are shared")
		}
	}
}

// beginning is what a node is made of.
type beginning struct {
	id      int
	h       api.Hard
	s       api.Snap
	l       []api.Entry
	timeout int
}

// begin draws one.
func begin(r *rand.Rand) beginning {
	d := drawer{r, api.View{Hard: api.Hard{Term: 4}}}
	b := beginning{id: one(d, 0, 0, 0, 3), timeout: 1 + r.Intn(3)}
	b.s = one(d, first(0), first(0, 1), first(0, 1, 2), snap(3, 1, 700, 0, 1, 3), snap(2, 2, 0, 0, 3))
	terms := slices.Repeat([]int{2}, r.Intn(7))
	b.l = row(b.s.Index+1, terms...)
	if r.Intn(3) == 0 {
		b.l = with(b.l, b.s.Index+len(b.l)+1, 3, votes(0, 1, 2, 3))
	}
	b.h = api.Hard{Term: 3 + r.Intn(3), Vote: r.Intn(8)}
	if r.Intn(20) == 0 {
		b.h.Term = most - r.Intn(3)
	}
	if r.Intn(20) == 0 {
		b.s, b.l = snap(most-r.Intn(4), 2, 600, 0, 1), nil
	}
	return b
}

// kept is what a node's outputs told to be kept.
type kept struct {
	id   int
	hard api.Hard
	snap api.Snap
	log  *ledger.Ledger
}

// keeps is what is kept at the beginning.
func keeps(b beginning) kept {
	log, _ := ledger.New(b.s.Index, b.s.Term, b.l...)
	return kept{id: b.id, hard: b.h, snap: b.s, log: log}
}

// keep keeps what an output tells to be kept.
func (k *kept) keep(t *testing.T, o api.Output) {
	t.Helper()
	if o.Hard != nil {
		k.hard = *o.Hard
	}
	var e [3]api.Errno
	if o.Snap != nil {
		k.snap = *o.Snap
		e[0] = k.log.Rebase(o.Snap.Index, o.Snap.Term)
	}
	if o.Cut != 0 {
		e[1] = k.log.Cut(o.Cut)
	}
	e[2] = k.log.Add(o.Entries...)
	if e != [3]api.Errno{} {
		t.Fatal(e, told(o))
	}
}

// again is a node of what was kept.
func (k *kept) again(t *testing.T, timeout int) *raft.Raft {
	t.Helper()
	return made(t, k.id, k.hard, k.snap, k.log.From(k.snap.Index+1, 1<<20), timeout)
}

// told fails unless a node of what was kept has what one tells (P12.10).
func (k *kept) told(t *testing.T, v api.View) {
	t.Helper()
	v.Role, v.Leader, v.Commit = api.Follower, 0, v.Index
	is(t, k.again(t, 1), v)
}

// held fails if what a node told ahead of an input and behind it does not go together (P12.6 to P12.9).
func held(t *testing.T, was, v api.View, in api.Input, o api.Output) {
	t.Helper()
	if v.Hard.Term < was.Hard.Term || v.Commit < was.Commit || v.Index < was.Index || v.Commit < v.Index {
		t.Fatal(was.Hard, was.Commit, was.Index, "then", v.Hard, v.Commit, v.Index)
	}
	if v.Hard.Term == was.Hard.Term && was.Hard.Vote != 0 && v.Hard.Vote != was.Hard.Vote {
		t.Fatal("two votes:", was.Hard, v.Hard)
	}
	done := was.Commit
	if o.Snap != nil && in.Kind == api.IMsg {
		done = max(done, o.Snap.Index)
	}
	for _, e := range o.Apply {
		done++
		if e.Index != done || !sameEntries([]api.Entry{e}, v.Entries[done-v.Index-1:][:1]) {
			t.Fatal("to be done is", e, "not", done)
		}
	}
	if done != v.Commit {
		t.Fatal("to be done is up to", done, "not", v.Commit)
	}
	stays := was.Commit
	if was.Role == api.Leader && v.Role == api.Leader && v.Hard.Term == was.Hard.Term {
		stays = was.Index + len(was.Entries)
		if slices.ContainsFunc(o.Entries, func(e api.Entry) bool { return e.Term != v.Hard.Term }) {
			t.Fatal("who leads adds", o.Entries)
		}
	}
	for index := v.Index + 1; index <= stays; index++ {
		if !sameEntries(was.Entries[index-was.Index-1:][:1], v.Entries[index-v.Index-1:][:1]) {
			t.Fatal("entry", index, "has changed")
		}
	}
	if o.Cut != 0 && o.Cut <= stays {
		t.Fatal("cut from", o.Cut, "of", stays)
	}
}

// P12.1 to P12.10: random inputs, held against a node that is told line by line; and against one of which all is spoiled that was handed in, or out.
func TestRandom(t *testing.T) {
	for seed := range 600 {
		r := rand.New(rand.NewSource(int64(seed)))
		b := begin(r)
		node := made(t, b.id, b.h, b.s, b.l, b.timeout)
		model := plainOf(b.id, b.h, b.s, b.l, b.timeout)
		given := roomyEntries(b.l)
		snap := api.Snap{Index: b.s.Index, Term: b.s.Term, Voters: roomyInts(b.s.Voters), Data: roomyBytes(b.s.Data)}
		spoiled := made(t, b.id, b.h, snap, given, b.timeout)
		keep := keeps(b)
		x := &lists{bytes: [][]byte{wholeOf(snap.Data)}, ints: [][]int{wholeOf(snap.Voters)}}
		x.addEntries(given)
		x.spoil(t)
		for range 120 {
			was := node.View()
			in := drawer{r, was}.input()
			o := node.Step(in)
			if answer, right := told(o), told(model.step(in)); answer != right {
				t.Fatalf("seed %d: %+v: %s\nnot %s", seed, in, answer, right)
			}
			v := model.view()
			is(t, node, v)
			keep.keep(t, o)
			keep.told(t, v)
			held(t, was, v, in, o)
			handled(t, spoiled, in, told(o))
		}
	}
}

// handled fails unless a node answers just that; what is handed to it stays, and is spoiled then, as is the answer.
func handled(t *testing.T, r *raft.Raft, in api.Input, right string) {
	t.Helper()
	given := roomy(in)
	was := fmt.Sprint(given, *ofInput(given))
	o := r.Step(given)
	if now := fmt.Sprint(given, *ofInput(given)); now != was {
		t.Fatal(now, "not", was)
	}
	if answer := told(o); answer != right {
		t.Fatalf("%+v: %s\nnot %s", in, answer, right)
	}
	ofInput(given).spoil(t)
	ofOutput(o).spoil(t)
	ofView(r.View()).spoil(t)
}

// P12.3: two nodes know nothing of one another.
func TestApart(t *testing.T) {
	a, b := leader(t, first(0, 1), 3), leader(t, first(0, 1), 3)
	was := b.View()
	a.Step(has(1, 4, 0))
	a.Step(api.Input{Kind: api.IPropose, Data: open()})
	is(t, b, was)
	a.Step(api.Input{Kind: api.IPack, Index: 4, Data: data(9)})
	is(t, b, was)
}
