package raft_test

import (
	"bytes"
	"math/rand"
	"slices"
	"testing"

	"spandrel/api"
	"spandrel/machine"
	"spandrel/raft"
	"spandrel/roster"
)

// member is a node of a world: what its outputs told to keep, and a machine that did what they told to do.
type member struct {
	*raft.Raft
	kept
	machine *machine.Machine
	commit  int
	votes   map[int]int // by terms
}

// place is an index and a term.
type place struct{ index, term int }

// committed is the term of an entry, and the least one in which it was committed.
type committed struct{ term, in int }

// world is nodes, messages between them, and what was seen of them so far.
type world struct {
	t       *testing.T
	r       *rand.Rand
	voters  []int
	members []*member
	bag     []api.Msg
	leads   map[int]int       // who led, by terms
	data    map[place]string  // of entries
	ahead   map[place]int     // the term of the one ahead of an entry
	images  map[int][]byte    // of machines, by how far they came
	chosen  map[int]committed // by indices
	asked   map[int]int       // of a read: what was committed when it was asked
	reads   int               // that were answered
	snaps   int               // that came by messages
	latest  int               // who was seen to lead
	fast    int               // the node at which time passes mostly
}

// newWorld is some nodes, of which the first ones vote.
func newWorld(t *testing.T, seed int64, nodes, voters int) *world {
	w := &world{
		t: t, r: rand.New(rand.NewSource(seed)), leads: map[int]int{}, data: map[place]string{}, ahead: map[place]int{},
		images: map[int][]byte{}, chosen: map[int]committed{}, asked: map[int]int{},
	}
	for n := range voters {
		w.voters = append(w.voters, n)
	}
	for id := range nodes {
		w.members = append(w.members, &member{kept: keeps(beginning{id: id, s: first(w.voters...)}), votes: map[int]int{}})
		w.start(id, 2+w.r.Intn(4))
	}
	return w
}

// start makes a node of what was kept of it (P12.10).
func (w *world) start(id, timeout int) {
	m := w.members[id]
	m.Raft = m.again(w.t, timeout)
	m.machine, _ = machine.New(w.voters...)
	if m.snap.Index > 0 {
		m.machine = w.loaded(m.snap)
	}
	m.commit = m.snap.Index
}

// loaded is the machine of a snapshot.
func (w *world) loaded(s api.Snap) *machine.Machine {
	m, e := machine.Load(s.Data)
	if e != api.OK || m.Index() != s.Index || m.Term() != s.Term || !slices.Equal(m.Voters(), s.Voters) {
		w.t.Fatal(e, s.Index, s.Term, s.Voters)
	}
	return m
}

// step has a node take an input, and does what it answers.
func (w *world) step(id int, in api.Input) api.Errno {
	w.t.Helper()
	m := w.members[id]
	was := m.View()
	o := m.Step(in)
	if o.Err != api.OK {
		is(w.t, m.Raft, was)
		return o.Err
	}
	v := m.View()
	m.keep(w.t, o)
	held(w.t, was, v, in, o)
	m.told(w.t, v)
	w.install(m, in, o)
	w.apply(m, o)
	w.looked(id, v)
	for _, s := range o.Send {
		if raft.Check(s) != api.OK || s.From != id || s.Term != v.Hard.Term {
			w.t.Fatalf("%+v", s)
		}
		w.bag = append(w.bag, s)
	}
	for _, read := range o.Reads {
		w.reads++
		if at, there := w.asked[read.ID]; !there || read.Index < at || read.Index > v.Commit {
			w.t.Fatal("a look at", read, "is older than", at)
		}
		delete(w.asked, read.ID)
	}
	return api.OK
}

// install has a node's machine begin anew with a snapshot that came by a message.
func (w *world) install(m *member, in api.Input, o api.Output) {
	if o.Snap != nil && in.Kind == api.IMsg {
		w.snaps++
		m.machine = w.loaded(*o.Snap)
		m.commit = o.Snap.Index
		w.same(m)
	}
}

// right fails unless there is no error.
func (w *world) right(e api.Errno) {
	w.t.Helper()
	if e != api.OK {
		w.t.Fatal(e)
	}
}

// apply does entries: they go on index by index (P12.8), and all machines have the same then (P4).
func (w *world) apply(m *member, o api.Output) {
	for _, e := range o.Apply {
		if _, err := m.machine.Apply(e); err != api.OK {
			w.t.Fatal(err, e.Index, "behind", m.commit)
		}
		m.commit = e.Index
		w.same(m)
		was, there := w.chosen[e.Index]
		if there && was.term != e.Term {
			w.t.Fatal("of", e.Index, "both", was.term, "and", e.Term, "are committed")
		}
		if !there {
			was = committed{e.Term, m.hard.Term}
		}
		was.in = min(was.in, m.hard.Term)
		w.chosen[e.Index] = was
	}
	if m.commit != m.View().Commit {
		w.t.Fatal("done is", m.commit, "of", m.View().Commit)
	}
}

// same fails unless a machine has what each other one has that came as far.
func (w *world) same(m *member) {
	image := m.machine.Image()
	if other, there := w.images[m.commit]; there && !bytes.Equal(image, other) {
		w.t.Fatal("states of", m.commit, "differ")
	}
	w.images[m.commit] = image
}

// looked fails if something does not hold of several nodes behind a step of one.
func (w *world) looked(id int, v api.View) {
	m := w.members[id]
	// P12.7: one vote in a term, started again or not.
	if vote := m.votes[v.Hard.Term]; vote != 0 && vote != v.Hard.Vote {
		w.t.Fatal("in", v.Hard.Term, "voted for", vote, "and", v.Hard.Vote)
	}
	m.votes[v.Hard.Term] = v.Hard.Vote
	w.agree(v)
	if v.Role == api.Leader {
		if other, there := w.leads[v.Hard.Term]; there && other != id {
			w.t.Fatal("in", v.Hard.Term, other, "and", id, "lead")
		}
		w.leads[v.Hard.Term], w.latest = id, id
	}
	for _, m := range w.members {
		w.complete(m.View())
	}
}

// agree fails unless entries of one index and term are the same, and so is what stands ahead of them (P4).
func (w *world) agree(v api.View) {
	term := v.Term
	for _, e := range v.Entries {
		at := place{e.Index, e.Term}
		if b, there := w.data[at]; there && (b != string(e.Data) || w.ahead[at] != term) {
			w.t.Fatal("entries of", at, "differ")
		}
		w.data[at], w.ahead[at] = string(e.Data), term
		term = e.Term
	}
}

// complete fails unless who leads has what was committed in the terms ahead of its own (P4).
func (w *world) complete(v api.View) {
	if v.Role != api.Leader {
		return
	}
	for index, c := range w.chosen {
		at := index - v.Index - 1
		if c.in < v.Hard.Term && at >= 0 && (at >= len(v.Entries) || v.Entries[at].Term != c.term) {
			w.t.Fatal("who leads in", v.Hard.Term, "lacks", index, "of", c.term)
		}
	}
}

// deliver has a message of the bag come, at times twice, or be lost.
func (w *world) deliver() {
	if len(w.bag) == 0 {
		return
	}
	at := w.r.Intn(min(len(w.bag), 12))
	m := w.bag[at]
	if w.r.Intn(12) > 0 {
		w.bag = slices.Delete(w.bag, at, at+1)
	}
	if w.r.Intn(10) > 0 {
		w.step(m.To, api.Input{Kind: api.IMsg, Msg: m})
	}
}

// command is one that a client may want.
func (w *world) command(m *member) []byte {
	seats := m.machine.Seats()
	if len(seats) == 0 || w.r.Intn(6) == 0 {
		return open()
	}
	s := seats[w.r.Intn(len(seats))]
	c := api.Command{Kind: api.CIngest, Session: s.Session, Seq: s.Seq + w.r.Intn(2)}
	if c.Seq == 0 {
		c.Seq = 1
	}
	for range 1 + w.r.Intn(8) {
		id := 1 + w.r.Intn(60)
		c.Spans = append(c.Spans, api.Span{Trace: 1 + w.r.Intn(3), ID: id, Start: id, End: id + 5, Name: "a-piece-of-work-that-has-a-name"})
	}
	return bytesOf(c)
}

// act does one thing of many.
func (w *world) act() {
	if w.r.Intn(100) == 0 {
		w.fast = w.r.Intn(len(w.members))
	}
	id := w.r.Intn(len(w.members))
	switch w.r.Intn(4) {
	case 0:
		id = w.fast
	case 1, 2:
		id = w.latest
	}
	m := w.members[id]
	switch n := w.r.Intn(100); {
	case n < 65:
		w.deliver()
	case n < 75:
		w.step(id, api.Input{Kind: api.ITick, Timeout: 2 + w.r.Intn(8)})
	case n < 86:
		w.step(id, api.Input{Kind: api.IPropose, Data: w.command(m)})
	case n < 90:
		l := m.View().Voters
		x := w.r.Intn(len(w.members))
		if w.r.Intn(2) == 0 || len(l) < 3 {
			l = roster.Join(l, x)
		} else {
			l = roster.Leave(l, x)
		}
		w.step(id, api.Input{Kind: api.IRoster, Voters: l})
	case n < 94:
		read := w.r.Int()
		now := 0
		for index := range w.chosen {
			now = max(now, index)
		}
		w.asked[read] = now
		w.step(id, api.Input{Kind: api.IRead, ID: read})
	case n < 97:
		index := m.machine.Index() - w.r.Intn(2)
		w.step(id, api.Input{Kind: api.IPack, Index: index, Data: w.images[index]})
	case n < 99:
		w.start(w.r.Intn(len(w.members)), 2+w.r.Intn(8))
	default:
		w.bag = w.bag[:w.r.Intn(len(w.bag)+1)]
	}
}

// P4, P12.6 to P12.10: of several nodes, whatever comes, is lost, comes twice; they start again, voters change, states are kept.
func TestWorld(t *testing.T) {
	leads, reads, snaps, chosen := 0, 0, 0, 0
	for seed := range int64(80) {
		nodes := 3 + int(seed%3)
		w := newWorld(t, seed, nodes, 1+int(seed%int64(nodes)))
		for range 700 {
			w.act()
		}
		leads, reads, snaps, chosen = leads+len(w.leads), reads+w.reads, snaps+w.snaps, chosen+len(w.chosen)
		w.settle()
	}
	t.Log("terms with a leader", leads, "looks", reads, "snapshots", snaps, "entries", chosen)
	if leads < 100 || reads < 100 || snaps < 20 || chosen < 1000 {
		t.Error("too little came of it")
	}
}

// newest is the node with the newest log among those that vote by their own entries.
func (w *world) newest() int {
	best, last := -1, place{}
	for id, m := range w.members {
		index, term := m.log.Last()
		if !roster.Votes(m.View().Voters, id) {
			continue
		}
		if best < 0 || term > last.term || term == last.term && index > last.index {
			best, last = id, place{index, term}
		}
	}
	return best
}

// settle fails unless in the end, when time passes at one of the newest nodes and nothing is lost any more, that one leads, all its voters have done all, and a look is answered (P5).
func (w *world) settle() {
	w.bag = nil
	id := w.newest()
	for range 40 {
		w.step(id, api.Input{Kind: api.ITick, Timeout: 3})
		w.deliverAll()
	}
	v := w.members[id].View()
	if v.Role != api.Leader || v.Commit != v.Index+len(v.Entries) {
		w.t.Fatal("it does not lead", v.Role, v.Commit, v.Index, len(v.Entries))
	}
	for _, n := range v.Voters {
		if w.members[n].commit != v.Commit {
			w.t.Fatal(n, "has done", w.members[n].commit, "of", v.Commit)
		}
	}
	reads := w.reads
	w.asked[-1] = v.Commit
	w.right(w.step(id, api.Input{Kind: api.IRead, ID: -1}))
	w.deliverAll()
	if w.reads != reads+1 {
		w.t.Fatal("a look is not answered")
	}
}

// deliverAll has all messages come in turn, and those that they lead to.
func (w *world) deliverAll() {
	for n := 0; len(w.bag) > 0; n++ {
		if n > 20000 {
			w.t.Fatal("messages without an end")
		}
		m := w.bag[0]
		w.bag = w.bag[1:]
		w.step(m.To, api.Input{Kind: api.IMsg, Msg: m})
	}
}
