package node_test

import (
	"bytes"
	"fmt"
	"math/rand"
	"testing"

	"spandrel/api"
	"spandrel/disk"
	"spandrel/machine"
	"spandrel/net"
	"spandrel/node"
	"spandrel/raft"
	"spandrel/roster"
)

// reach is up to where a node said that it has the entries of who leads, and their terms from a base on.
type reach struct {
	index, base int
	terms       []int
}

// said is what a node told others, and did.
type said struct {
	term   int           // the greatest one of a message
	votes  map[int]int   // for whom it voted, by terms
	has    map[int]reach // by terms
	commit int
}

// member is a node of a world, its disk, and a raft without one that takes what the node takes.
type member struct {
	said
	d    *disk.Disk
	n    *node.Node // nil: it does not run
	twin *raft.Raft
}

// world is nodes, messages between them, and what was seen of them so far.
type world struct {
	t       *testing.T
	r       *rand.Rand
	voters  []int
	members []*member
	bag     *net.Net
	leads   map[int]int // who led, by terms
	log     []api.Entry // all that was committed
	replies []api.Reply // what came of it
	canon   *machine.Machine
	images  [][]byte    // of the state, by how far it came
	asked   map[int]int // of a read: what was committed when it was asked
	latest  int         // who was seen to lead
	starts  int
	reads   int               // that were answered
	snaps   int               // that came by messages
	stops   map[api.Errno]int // of nodes, within a step
}

// newWorld is some nodes, of which the first ones vote, on disks of some room.
func newWorld(t *testing.T, seed int64, nodes, voters, room int) *world {
	w := &world{t: t, r: rand.New(rand.NewSource(seed)), bag: net.New(), leads: map[int]int{}, asked: map[int]int{}, stops: map[api.Errno]int{}}
	for n := range voters {
		w.voters = append(w.voters, n)
	}
	w.canon = does(t, w.voters)
	w.images = [][]byte{w.canon.Image()}
	for id := range nodes {
		w.members = append(w.members, &member{d: fresh(t, room), said: said{votes: map[int]int{}, has: map[int]reach{}}})
		w.start(id)
	}
	return w
}

// start opens a node of its disk, if that can be, and holds it against what it told.
func (w *world) start(id int) {
	m := w.members[id]
	timeout := 2 + w.r.Intn(6)
	right(w.t, m.d.Start())
	if w.r.Intn(4) == 0 {
		right(w.t, m.d.Arm(1+w.r.Intn(8), w.r.Intn(4), w.r.Intn(2)*w.r.Intn(300)))
	}
	n, e := node.Open(id, m.d, w.voters, timeout)
	if e == api.ErrDown || e == api.ErrFull {
		return
	}
	right(w.t, e, m.d.Arm(0, 0, 0))
	w.starts++
	m.n = n
	v := n.View()
	w.remembers(m, v)
	w.state(m, v)
	s := kept(w.t, m.d)
	if s.Index == 0 {
		s.Voters = w.voters
	}
	m.twin, e = raft.New(id, v.Hard, s, v.Entries, timeout)
	right(w.t, e)
}

// remembers fails unless a node that was opened has what it told (P14.4, P3).
func (w *world) remembers(m *member, v api.View) {
	w.t.Helper()
	if v.Hard.Term < m.term {
		w.t.Fatal("it sent in", m.term, "and is in", v.Hard.Term)
	}
	if to, voted := m.votes[v.Hard.Term]; voted && v.Hard.Vote != to+1 {
		w.t.Fatal("in", v.Hard.Term, "it voted for", to, "and has", v.Hard.Vote)
	}
	has := m.has[v.Hard.Term]
	if last := v.Index + len(v.Entries); last < has.index || last < m.commit {
		w.t.Fatal("it told of", has.index, "did", m.commit, "and has", last)
	}
	for i, e := range v.Entries {
		if at := e.Index - has.base - 1; at >= 0 && at < len(has.terms) && e.Term != has.terms[at] {
			w.t.Fatal("it told of", e.Index, "of", has.terms[at], "and has", e.Term)
		}
		if index := v.Index + 1 + i; index <= m.commit && fmt.Sprint(e) != fmt.Sprint(w.log[index-1]) {
			w.t.Fatal("it did another entry of", index)
		}
	}
}

// state fails unless a node has the state that the entries up to commit lead to (P14.5, P4).
func (w *world) state(m *member, v api.View) {
	w.t.Helper()
	_, index := m.n.Lookup(1)
	if index != v.Commit || index >= len(w.images) || !bytes.Equal(m.n.Image(), w.images[index]) {
		w.t.Fatal("the state of", index, "is another one, or not of", v.Commit)
	}
}

// step has a node take an input, if it runs.
func (w *world) step(id int, in api.Input) {
	w.t.Helper()
	m := w.members[id]
	if m.n == nil {
		return
	}
	_, was := m.n.Lookup(1)
	o := m.twin.Step(w.filled(m, in))
	done := m.n.Handle(in)
	switch {
	case done.Err != api.OK && told(done) != told(api.Done{Err: done.Err}):
		w.t.Fatal(done)
	case o.Err == api.OK && (done.Err == api.ErrDown || done.Err == api.ErrFull):
		w.stops[done.Err]++
		w.crash(id)
		return
	case done.Err != o.Err:
		w.t.Fatal(done.Err, "not", o.Err)
	case done.Err != api.OK:
		return
	}
	v := m.n.View()
	if fmt.Sprint(done.Index, done.Send, done.Reads, v) != fmt.Sprint(o.Index, o.Send, o.Reads, m.twin.View()) {
		w.t.Fatalf("%+v not %+v", done, o)
	}
	if o.Snap != nil && in.Kind == api.IMsg {
		w.snaps++
		was = o.Snap.Index
	}
	w.did(m, was, o.Apply, done.Answers)
	w.state(m, v)
	w.tells(m, v, done.Send)
	w.leader(id, v)
	w.answered(m, done.Reads)
	w.bag.Send(done.Send...)
}

// filled is an input as raft takes it: what a node keeps is its own state.
func (w *world) filled(m *member, in api.Input) api.Input {
	if in.Kind == api.IPack {
		in.Data = m.n.Image()
		_, in.Index = m.n.Lookup(0)
	}
	return in
}

// did fails unless what a node did goes on from what it had done, and comes to what it came to at all others (P4).
func (w *world) did(m *member, was int, l []api.Entry, answers []api.Answer) {
	w.t.Helper()
	if len(answers) != len(l) {
		w.t.Fatal(answers, l)
	}
	for i, a := range answers {
		e := l[i]
		if was++; a.Index != was || a.Index != e.Index || a.Term != e.Term {
			w.t.Fatal("behind", was-1, "it did", a.Index, e.Index)
		}
		w.commit(e)
		if fmt.Sprint(e) != fmt.Sprint(w.log[was-1]) || a.Reply != w.replies[was-1] {
			w.t.Fatal("of", was, "two are committed, or came to something else:", a.Reply, w.replies[was-1])
		}
	}
	m.said.commit = max(was, m.said.commit)
}

// commit does an entry that is the first of its index.
func (w *world) commit(e api.Entry) {
	if e.Index != len(w.log)+1 {
		return
	}
	r, err := w.canon.Apply(e)
	right(w.t, err)
	w.log, w.replies, w.images = append(w.log, e), append(w.replies, r), append(w.images, w.canon.Image())
}

// tells keeps what a node told others.
func (w *world) tells(m *member, v api.View, l []api.Msg) {
	w.t.Helper()
	for _, x := range l {
		if x.Term != v.Hard.Term || x.From != v.ID {
			w.t.Fatal(x)
		}
		m.term = max(m.term, x.Term)
		to, voted := m.votes[x.Term]
		switch {
		case x.Kind == api.MVoted && x.Yes && voted && to != x.To:
			w.t.Fatal("in", x.Term, "it votes for", to, "and", x.To)
		case x.Kind == api.MVoted && x.Yes:
			m.votes[x.Term] = x.To
		case x.Kind == api.MAppended && x.Yes && x.Index >= m.has[x.Term].index:
			r := reach{index: x.Index, base: v.Index}
			for _, e := range v.Entries[:max(0, x.Index-v.Index)] {
				r.terms = append(r.terms, e.Term)
			}
			m.has[x.Term] = r
		}
	}
}

// leader fails if two lead in one term (P4).
func (w *world) leader(id int, v api.View) {
	w.t.Helper()
	if v.Role != api.Leader {
		return
	}
	if other, there := w.leads[v.Hard.Term]; there && other != id {
		w.t.Fatal("in", v.Hard.Term, other, "and", id, "lead")
	}
	w.leads[v.Hard.Term], w.latest = id, id
}

// answered fails if a look is older than what had been committed when it was asked for.
func (w *world) answered(m *member, l []api.Read) {
	w.t.Helper()
	_, index := m.n.Lookup(1)
	for _, x := range l {
		if at, there := w.asked[x.ID]; !there || x.Index < at || index < x.Index {
			w.t.Fatal("a look at", x, "of", index, "is older than", at)
		}
		delete(w.asked, x.ID)
		w.reads++
	}
}

// crash lets the power of a node go, if it has not gone.
func (w *world) crash(id int) {
	m := w.members[id]
	m.d.Crash(w.r.Intn(5), w.r.Intn(2)*w.r.Intn(300))
	m.n = nil
}

// deliver has a message come, at times twice, or be lost.
func (w *world) deliver() {
	l := w.bag.List()
	if len(l) == 0 {
		return
	}
	id := l[w.r.Intn(min(len(l), 12))]
	if w.r.Intn(12) == 0 {
		w.bag.Double(id)
	}
	if w.r.Intn(12) == 0 {
		right(w.t, w.bag.Lose(id))
		return
	}
	w.take(id)
}

// take has a message come.
func (w *world) take(id int) {
	m, e := w.bag.Take(id)
	right(w.t, e)
	w.step(m.To, hear(m))
}

// command is one that a client may want.
func (w *world) command() []byte {
	seats := w.canon.Seats()
	switch w.r.Intn(12) {
	case 0:
		return put(api.Command{Kind: api.CExpire, At: max(0, len(w.log)-w.r.Intn(60))})
	case 1:
		return retain(w.r.Intn(150))
	case 2:
		seats = nil
	}
	if len(seats) == 0 {
		return opens()
	}
	s := seats[w.r.Intn(len(seats))]
	var l []api.Span
	for range 1 + w.r.Intn(8) {
		l = append(l, span(1+w.r.Intn(100)))
	}
	return ingest(s.Session, max(1, s.Seq+w.r.Intn(2)), l...)
}

// act does one thing of many.
func (w *world) act() {
	id := w.r.Intn(len(w.members))
	if w.r.Intn(2) == 0 {
		id = w.latest
	}
	m := w.members[id]
	if m.n == nil && w.r.Intn(8) == 0 {
		w.start(id)
		return
	}
	switch n := w.r.Intn(200); {
	case n < 120:
		w.deliver()
	case n < 143:
		w.step(id, api.Input{Kind: api.ITick, Timeout: 2 + w.r.Intn(8)})
	case n < 172:
		w.step(id, propose(w.command()))
	case n < 177:
		w.change(m, w.r.Intn(len(w.members)))
	case n < 184:
		x := w.r.Int()
		w.asked[x] = len(w.log)
		w.step(id, read(x))
	case n < 196:
		w.step(id, pack())
	case n < 199:
		m.d.Arm(1+w.r.Intn(8), w.r.Intn(5), w.r.Intn(2)*w.r.Intn(300))
	default:
		w.crash(id)
	}
}

// change asks a node for one voter more, or less.
func (w *world) change(m *member, x int) {
	if m.n == nil {
		return
	}
	v := m.n.View()
	l := roster.Join(v.Voters, x)
	if w.r.Intn(2) == 0 && len(v.Voters) > 2 {
		l = roster.Leave(v.Voters, x)
	}
	w.step(v.ID, other(l...))
}

// newest is the node with the newest log among those that vote by their own entries.
func (w *world) newest() int {
	best, term, last := -1, 0, 0
	for id, m := range w.members {
		v := m.n.View()
		index, at := v.Index, v.Term
		for _, e := range v.Entries {
			index, at = e.Index, e.Term
		}
		if roster.Votes(v.Voters, id) && (best < 0 || at > term || at == term && index > last) {
			best, term, last = id, at, index
		}
	}
	return best
}

// settle lets the power of all nodes go at once, and starts them again. It fails unless all that was committed is there then (P3), and, when time passes at one of the newest nodes and nothing is lost any more, that one leads, and all its voters have done all (P5).
func (w *world) settle() {
	w.t.Helper()
	for id, m := range w.members {
		w.crash(id)
		for m.n == nil {
			w.start(id)
		}
	}
	for _, id := range w.bag.List() {
		right(w.t, w.bag.Lose(id))
	}
	id := w.newest()
	for range 40 {
		w.step(id, api.Input{Kind: api.ITick, Timeout: 3})
		w.deliverAll()
	}
	v := w.members[id].n.View()
	if v.Role != api.Leader || v.Commit != v.Index+len(v.Entries) || v.Commit != len(w.log) {
		w.t.Fatal("it does not lead, or not to", len(w.log), v.Role, v.Commit, v.Index, len(v.Entries))
	}
	for _, n := range v.Voters {
		if _, index := w.members[n].n.Lookup(1); index != v.Commit {
			w.t.Fatal(n, "has done", index, "of", v.Commit)
		}
	}
	reads := w.reads
	w.asked[-1] = len(w.log)
	w.step(id, read(-1))
	w.deliverAll()
	if w.reads != reads+1 {
		w.t.Fatal("a look is not answered")
	}
}

// deliverAll has all messages come in turn, and those that they lead to.
func (w *world) deliverAll() {
	w.t.Helper()
	for n := 0; len(w.bag.List()) > 0; n++ {
		if n > 20000 {
			w.t.Fatal("messages without an end")
		}
		w.take(w.bag.List()[0])
	}
}

// P14.2, P14.4, P14.5, P14.6, P3, P4, P5: of several nodes, whatever comes, is lost, comes twice; the power goes by itself or at any act; voters change, states are kept and handed over.
func TestWorld(t *testing.T) {
	starts, stops, snaps, reads, entries := 0, 0, 0, 0, 0
	for seed := range int64(40) {
		nodes := 1 + int(seed%5)
		w := newWorld(t, seed, nodes, 1+int(seed/2%int64(nodes)), api.MaxRoom)
		for range 1200 {
			w.act()
		}
		w.settle()
		starts, stops, snaps, reads, entries = starts+w.starts, stops+w.stops[api.ErrDown], snaps+w.snaps, reads+w.reads, entries+len(w.log)
	}
	t.Log("starts", starts, "stops", stops, "snapshots", snaps, "looks", reads, "entries", entries)
	if starts < 500 || stops < 200 || snaps < 20 || reads < 200 || entries < 1500 {
		t.Error("too little came of it")
	}
}

// P14.2, P14.4, P14.6: the same where disks have little room, so that nodes stop for that.
func TestLittleRoom(t *testing.T) {
	full, entries := 0, 0
	for seed := range int64(40) {
		w := newWorld(t, seed, 3, 3, 600+50*int(seed))
		for range 900 {
			w.act()
		}
		full, entries = full+w.stops[api.ErrFull], entries+len(w.log)
	}
	t.Log("stops", full, "entries", entries)
	if full < 50 || entries < 500 {
		t.Error("too little came of it")
	}
}
