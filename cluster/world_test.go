package cluster_test

import (
	"bytes"
	"fmt"
	"math/rand"
	"slices"
	"testing"

	"spandrel/api"
	"spandrel/cluster"
	"spandrel/machine"
	"spandrel/roster"
)

// place is an index, and the term of the entry there.
type place struct{ index, term int }

// vote is a node in a term.
type vote struct{ node, term int }

// world is a cluster, and what somebody who looks on has seen of it so far.
type world struct {
	t       *testing.T
	r       *rand.Rand
	c       *cluster.Cluster
	leads   map[int]int         // who led, by terms
	votes   map[vote]int        // for whom, and 1
	entries map[place]api.Entry // all that there were
	behind  map[place]int       // the term of the entry ahead of one
	log     []api.Entry         // all that was committed
	chosen  []int               // the term in which that was seen
	replies []api.Reply         // what came of it
	states  []*machine.Machine  // by how far they came
	told    []api.View          // the last one of each node
	halted  []bool              // it stopped at its disk, in the midst of a step
	last    int                 // the last message that was seen
	lead    int                 // who was seen to lead last
	count   map[string]int      // of what came up
}

func newWorld(t *testing.T, seed int64, nodes, voters, room int) *world {
	t.Helper()
	w := &world{t: t, r: rand.New(rand.NewSource(seed)), leads: map[int]int{}, votes: map[vote]int{}, entries: map[place]api.Entry{}, behind: map[place]int{}, count: map[string]int{}}
	var l []int
	for n := range voters {
		l = append(l, n)
	}
	c, e := cluster.New(nodes, l, room, 2)
	right(t, e)
	m, e := machine.New(l...)
	right(t, e)
	w.c, w.states = c, []*machine.Machine{m}
	w.told, w.halted = make([]api.View, nodes), make([]bool, nodes)
	for n := range nodes {
		w.looks(n)
	}
	return w
}

// does has the cluster do a step, and looks at what came of it.
func (w *world) does(s api.Step) api.Errno {
	w.t.Helper()
	n := s.Node
	if s.Kind == api.STake {
		m, _ := w.c.Peek(s.Msg)
		n = m.To
		w.count[fmt.Sprintf("message %d", m.Kind)]++
	}
	ran := w.c.Node(n) != nil
	e := w.c.Step(s)
	w.count[fmt.Sprintf("step %d: %d", s.Kind, e)]++
	w.sent()
	switch at := w.c.Node(n); {
	case s.Kind == api.SStart && e == api.OK:
		w.again(n)
		w.looks(n)
	case at != nil:
		w.looks(n)
	case ran && s.Kind != api.SCrash:
		w.halted[n] = true
	}
	return e
}

// sent fails if a node votes for two in a term, by what it sends (P3).
func (w *world) sent() {
	w.t.Helper()
	for _, id := range w.c.Waiting() {
		if id <= w.last {
			continue
		}
		w.last = id
		m, e := w.c.Peek(id)
		right(w.t, e)
		if m.Kind == api.MVoted && m.Yes {
			w.voted(m.From, m.Term, m.To+1)
		}
	}
}

// voted fails if a node voted for somebody else in that term (P3).
func (w *world) voted(n, term, who int) {
	w.t.Helper()
	v := vote{n, term}
	if was := w.votes[v]; was != 0 && who != was {
		w.t.Fatal(n, "voted in", term, "for", was-1, "and", who-1)
	}
	w.votes[v] = who
}

// again fails unless a node that starts again has its term, its vote, its snapshot and its entries (P3).
func (w *world) again(n int) {
	w.t.Helper()
	was, now := w.told[n], w.c.Node(n).View()
	w.count["starts"]++
	if !w.halted[n] {
		if now.Hard != was.Hard || now.Index != was.Index || now.Term != was.Term || fmt.Sprint(now.Entries) != fmt.Sprint(was.Entries) {
			w.t.Fatalf("%+v\nstarts as %+v", was, now)
		}
		return
	}
	w.count["halted"]++
	w.halted[n] = false
	if now.Hard.Term < was.Hard.Term || now.Index+len(now.Entries) < was.Commit || now.Index < was.Index {
		w.t.Fatalf("%+v\nstarts as %+v", was, now)
	}
}

// looks looks at a node that runs.
func (w *world) looks(n int) {
	w.t.Helper()
	v := w.c.Node(n).View()
	if v.Hard.Term < w.told[n].Hard.Term {
		w.t.Fatal(n, "is in", v.Hard.Term, "behind", w.told[n].Hard.Term)
	}
	if was := w.votes[vote{n, v.Hard.Term}]; v.Hard.Vote != 0 || was != 0 {
		w.voted(n, v.Hard.Term, v.Hard.Vote)
	}
	w.told[n] = v
	w.agrees(v)
	w.commits(v)
	w.leader(v)
	m := w.states[v.Commit]
	if _, index := w.c.Node(n).Lookup(1); index != v.Commit || !bytes.Equal(w.c.Node(n).Image(), m.Image()) {
		w.t.Fatal(n, "has another state of", v.Commit, index)
	}
}

// agrees fails unless entries of one index and term are the same, and so are all ahead of them (P4).
func (w *world) agrees(v api.View) {
	w.t.Helper()
	term := v.Term
	for i, e := range v.Entries {
		at := place{e.Index, e.Term}
		was, there := w.entries[at]
		if there && (!bytes.Equal(was.Data, e.Data) || w.behind[at] != term) || e.Index != v.Index+1+i {
			w.t.Fatal("two entries", was, e, "behind", w.behind[at], term)
		}
		w.entries[at], w.behind[at] = e, term
		term = e.Term
	}
}

// commits fails unless what a node has committed is what all others have (P4).
func (w *world) commits(v api.View) {
	w.t.Helper()
	if v.Index > len(w.log) || v.Index > 0 && w.log[v.Index-1].Term != v.Term {
		w.t.Fatal("a snapshot of", v.Index, v.Term)
	}
	for _, e := range v.Entries[:v.Commit-v.Index] {
		if e.Index <= len(w.log) {
			if fmt.Sprint(e) != fmt.Sprint(w.log[e.Index-1]) {
				w.t.Fatal("two that are committed:", e, w.log[e.Index-1])
			}
			continue
		}
		m := w.states[len(w.log)].Clone()
		r, err := m.Apply(e)
		right(w.t, err)
		w.log, w.replies, w.states, w.chosen = append(w.log, e), append(w.replies, r), append(w.states, m), append(w.chosen, v.Hard.Term)
	}
}

// leader fails if two lead in one term, or one lacks what was committed in one ahead of it (P4).
func (w *world) leader(v api.View) {
	w.t.Helper()
	if v.Role != api.Leader {
		return
	}
	if other, there := w.leads[v.Hard.Term]; there && other != v.ID {
		w.t.Fatal("in", v.Hard.Term, other, "and", v.ID, "lead")
	}
	w.leads[v.Hard.Term], w.lead = v.ID, v.ID
	for i, e := range w.log {
		if w.chosen[i] >= v.Hard.Term || e.Index <= v.Index {
			continue
		}
		if e.Index > v.Index+len(v.Entries) || fmt.Sprint(v.Entries[i-v.Index]) != fmt.Sprint(e) {
			w.t.Fatal(v.ID, "leads in", v.Hard.Term, "without", e)
		}
	}
}

// first is where a call took effect: of an ingest tried again at the first entry that has it.
func (w *world) first(c api.Call) int {
	if c.C.Kind != api.CIngest {
		return c.Index
	}
	for _, e := range w.log {
		if want, _ := machine.Get(e.Data); want.Kind == api.CIngest && want.Session == c.C.Session && want.Seq == c.C.Seq {
			return e.Index
		}
	}
	return c.Index
}

// explained fails unless a call was told what the entries up to its index say (P1).
func (w *world) explained(c api.Call) {
	w.t.Helper()
	if c.Ended < c.Began || c.Index > len(w.log) {
		w.t.Fatalf("%+v", c)
	}
	if c.C.Kind == api.CNone {
		if c.Reply != (api.Reply{}) || !slices.Equal(c.Forest, w.states[c.Index].Lookup(c.Trace)) {
			w.t.Fatalf("%+v", c)
		}
		return
	}
	b, e := machine.Put(c.C)
	right(w.t, e)
	if c.Forest != nil || !bytes.Equal(b, w.log[c.Index-1].Data) || c.Reply != w.replies[c.Index-1] {
		w.t.Fatalf("%+v", c)
	}
}

// linear fails unless one order explains all (P1).
func (w *world) linear() {
	w.t.Helper()
	var l []api.Call
	for _, c := range w.c.History() {
		if c.Ended != 0 {
			w.explained(c)
			l = append(l, c)
			w.count[fmt.Sprintf("call %d: %d", c.C.Kind, c.Reply.Err)]++
		}
	}
	for _, x := range l {
		at := w.first(x)
		for _, y := range l {
			if y.Ended >= x.Began {
				continue
			}
			w.count["one behind the other"]++
			if at < y.Index || at == y.Index && x.C.Kind != api.CNone {
				w.t.Fatalf("%+v stands ahead of %+v", x, y)
			}
			w.shows(x, y)
		}
	}
}

// shows fails unless a look shows the spans that an ingest had put in (P1).
func (w *world) shows(x, y api.Call) {
	w.t.Helper()
	n := y.Reply.Counts
	if x.C.Kind != api.CNone || y.C.Kind != api.CIngest || n.Added+n.Same != len(y.C.Spans) {
		return
	}
	for i, r := range w.replies[:x.Index] {
		if r.Gone > 0 && kindOf(w.log[i]) == api.CRetain {
			return
		}
	}
	for _, s := range y.C.Spans {
		if s.Trace == x.Trace && !slices.ContainsFunc(x.Forest, func(b api.Branch) bool { return b.Span == s }) {
			w.t.Fatalf("%+v does not show %+v", x, s)
		}
	}
	w.count["shown"]++
}

// kindOf is the kind of an entry's command.
func kindOf(e api.Entry) int {
	c, _ := machine.Get(e.Data)
	return c.Kind
}

// once fails unless of a session and a number one command is put in, once at most, and all entries that did it answer the same (P2).
func (w *world) once() {
	w.t.Helper()
	type turn struct{ session, seq int }
	did, data := map[turn]api.Reply{}, map[turn]string{}
	for i, e := range w.log {
		c, _ := machine.Get(e.Data)
		if c.Kind != api.CIngest {
			continue
		}
		at, r := turn{c.Session, c.Seq}, w.replies[i]
		if was, there := data[at]; there && was != string(e.Data) {
			w.t.Fatal("two commands of", at)
		}
		data[at] = string(e.Data)
		was, there := did[at]
		if changed := w.traces(i) != w.traces(i+1); changed && (there || r.Err != api.OK) {
			w.t.Fatal(e.Index, "has put something in:", r)
		}
		if r.Err != api.OK {
			w.count[fmt.Sprintf("refused: %d", r.Err)]++
			continue
		}
		if there {
			w.count["again"]++
		}
		if there && r != was {
			w.t.Fatal(at, "came to", was, r)
		}
		did[at] = r
	}
}

// traces is all that the traces of a state tell.
func (w *world) traces(i int) string {
	m := w.states[i]
	s := ""
	for _, n := range m.Traces() {
		s += fmt.Sprint(n, m.Lookup(n))
	}
	return s
}

// newest is the node with the newest log among those that vote by their own entries.
func (w *world) newest() int {
	best, term, last := -1, 0, 0
	for n := range w.c.Nodes() {
		v := w.c.Node(n).View()
		index, at := v.Index, v.Term
		for _, e := range v.Entries {
			index, at = e.Index, e.Term
		}
		if roster.Votes(v.Voters, n) && (best < 0 || at > term || at == term && index > last) {
			best, term, last = n, at, index
		}
	}
	return best
}

// calms has all messages come, and those that they lead to.
func (w *world) calms() {
	w.t.Helper()
	for n := 0; len(w.c.Waiting()) > 0; n++ {
		if n > 20000 {
			w.t.Fatal("messages without an end")
		}
		right(w.t, w.does(take(w.c.Waiting()[0])))
	}
}

// off lets the power of all nodes go at once, and starts them again (P3).
func (w *world) off() {
	w.t.Helper()
	for n := range w.c.Nodes() {
		w.does(crash(n, w.r.Intn(4), w.r.Intn(3)))
	}
	for n := range w.c.Nodes() {
		for range 20 {
			if w.c.Node(n) != nil {
				break
			}
			w.does(start(n))
		}
	}
	for _, id := range w.c.Waiting() {
		right(w.t, w.does(lose(id)))
	}
}

// settles fails unless, when all run, nothing is lost, and time passes at one of the newest, that leads, its voters have done all, and what clients want is done (P5).
func (w *world) settles() {
	w.t.Helper()
	w.off()
	n := w.newest()
	for range 40 {
		right(w.t, w.does(api.Step{Kind: api.STick, Node: n, Timeout: 3}))
		w.calms()
	}
	v := w.c.Node(n).View()
	if v.Role != api.Leader || v.Commit != v.Index+len(v.Entries) || v.Commit != len(w.log) {
		w.t.Fatalf("it does not lead, or not to %d: %+v", len(w.log), v)
	}
	for _, x := range v.Voters {
		if _, index := w.c.Node(x).Lookup(1); index != v.Commit {
			w.t.Fatal(x, "has done", index, "of", v.Commit)
		}
	}
	for who := range api.MaxClients {
		if _, _, waits := w.c.Client(who); waits {
			right(w.t, w.does(try(who, n)))
			w.count["tried at the end"]++
		}
		w.calms()
		for _, s := range []api.Step{look(who, n, 1), call(who, n, expire(most)), call(who, n, opens()), call(who, n, ingest(span(1))), look(who, n, 1)} {
			if _, _, waits := w.c.Client(who); waits {
				w.t.Fatal(who, "waits")
			}
			right(w.t, w.does(s))
			w.calms()
		}
	}
}

// runs has a world do steps, and looks at what clients were told.
func (w *world) runs(steps int) {
	w.t.Helper()
	for range steps {
		w.does(step(w.r, w.c.Nodes(), w.lead, w.c.Waiting()))
	}
}

// P1, P2, P3, P4, P5: whatever the script is: what clients want, and try again; messages that come, late, twice, in any order, or are lost; nodes that crash by themselves or at any act; other voters; states that are kept and handed over.
func TestWorld(t *testing.T) {
	all := map[string]int{}
	for seed := range int64(60) {
		nodes := 1 + int(seed%5)
		w := newWorld(t, seed, nodes, 1+int(seed/2%int64(nodes)), api.MaxRoom)
		for range 3 {
			w.runs(500)
			w.off()
		}
		w.settles()
		w.linear()
		w.once()
		for k, n := range w.count {
			all[k] += n
		}
		all["entries"] += len(w.log)
		all["terms"] += len(w.leads)
	}
	t.Log(all)
	for k, least := range map[string]int{"starts": 1000, "halted": 200, "shown": 500, "again": 100, "refused: 80": 50, "tried at the end": 20, "one behind the other": 5000, "call 0: 0": 500, "call 1: 0": 200, "call 2: 0": 300, "message 5": 200, "entries": 2000, "terms": 200} {
		if all[k] < least {
			t.Error(k, all[k])
		}
	}
}

// P1, P2, P3, P4: the same where disks have little room, so that nodes stop for that.
func TestWorldOfLittleRoom(t *testing.T) {
	entries, full := 0, 0
	for seed := range int64(40) {
		w := newWorld(t, 100+seed, 3, 3, 300+20*int(seed))
		w.runs(1200)
		w.linear()
		w.once()
		entries += len(w.log)
		for kind := range 13 {
			full += w.count[fmt.Sprintf("step %d: 7", kind)]
		}
	}
	t.Log("entries", entries, "stops", full)
	if entries < 500 || full < 50 {
		t.Error("too little came of it")
	}
}
