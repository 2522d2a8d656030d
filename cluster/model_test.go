package cluster_test

import (
	"fmt"
	"math"
	"math/rand"
	"slices"
	"testing"

	"spandrel/api"
	"spandrel/cluster"
	"spandrel/disk"
	"spandrel/machine"
	"spandrel/net"
	"spandrel/node"
)

// row is an ask of a plain cluster: of an index and a term, or of a look.
type row struct{ node, index, term, look, call int }

// plain is a cluster told line by line, as the chapter has it.
type plain struct {
	t            *testing.T
	first        []int
	bag          *net.Net
	disks        []*disk.Disk
	nodes        []*node.Node
	session, seq [4]int
	waits        [4]int // the place of the call and 1; 0: none
	calls        []api.Call
	rows         []row
	looks, steps int
	count        map[string]int // of what came up
}

func newPlain(t *testing.T, nodes int, voters []int, room, timeout int) *plain {
	p := &plain{t: t, first: voters, bag: net.New(), count: map[string]int{}}
	for n := range nodes {
		d, e := disk.New(room)
		right(t, e)
		x, e := node.Open(n, d, voters, timeout+n)
		right(t, e)
		p.disks, p.nodes = append(p.disks, d), append(p.nodes, x)
	}
	return p
}

func (p *plain) there(n int) bool { return n >= 0 && n < len(p.nodes) }
func (p *plain) runs(n int) bool  { return p.there(n) && p.nodes[n] != nil }

// step does a step, and counts what it came to.
func (p *plain) step(s api.Step) api.Errno {
	p.steps++
	e := p.of(s)
	p.count[fmt.Sprintf("step %d: %d", s.Kind, e)]++
	return e
}

func (p *plain) of(s api.Step) api.Errno {
	switch s.Kind {
	case 1, 2, 3:
		if s.Client < 0 || s.Client > 3 {
			return api.ErrStep
		}
		return p.client(s)
	case 6:
		return p.bag.Lose(s.Msg)
	case 7:
		return p.bag.Double(s.Msg)
	case 5:
		m, e := p.bag.Take(s.Msg)
		if e != api.OK || !p.runs(m.To) {
			return e
		}
		return p.input(m.To, api.Input{Kind: api.IMsg, Msg: m})
	case 4, 8, 9, 10, 12:
		if !p.there(s.Node) {
			return api.ErrStep
		}
		if !p.runs(s.Node) {
			return api.ErrNode
		}
		return p.runner(s)
	case 11:
		if !p.there(s.Node) {
			return api.ErrStep
		}
		if p.runs(s.Node) {
			return api.ErrNode
		}
		p.disks[s.Node].Start()
		n, e := node.Open(s.Node, p.disks[s.Node], p.first, s.Timeout)
		p.nodes[s.Node] = n
		return e
	}
	return api.ErrStep
}

func (p *plain) runner(s api.Step) api.Errno {
	switch s.Kind {
	case 4:
		return p.input(s.Node, api.Input{Kind: api.ITick, Timeout: s.Timeout})
	case 8:
		e := p.disks[s.Node].Crash(s.Keep, s.Tear)
		p.halt(s.Node)
		return e
	case 9:
		return p.disks[s.Node].Arm(s.N, s.Keep, s.Tear)
	case 10:
		return p.input(s.Node, api.Input{Kind: api.IPack})
	}
	for _, n := range s.Voters {
		if !p.there(n) {
			return api.ErrStep
		}
	}
	return p.input(s.Node, api.Input{Kind: api.IRoster, Voters: s.Voters})
}

func (p *plain) client(s api.Step) api.Errno {
	n := s.Client
	if s.Kind == 3 {
		if p.waits[n] == 0 {
			return api.ErrStep
		}
		p.session[n], p.seq[n], p.waits[n] = 0, 0, 0
		return api.OK
	}
	if !p.runs(s.Node) {
		return api.ErrNode
	}
	if s.Kind == 2 {
		if p.waits[n] == 0 {
			return api.ErrStep
		}
		return p.ask(s.Node, p.waits[n]-1)
	}
	call := api.Call{Client: n, Began: p.steps}
	if s.C.Kind == 0 {
		call.Trace = s.Trace
		if s.Trace < 1 || s.Trace > most {
			return api.ErrStep
		}
	} else {
		call.C = s.C
		if s.C.Kind == 2 {
			call.C.Session, call.C.Seq = p.session[n], p.seq[n]+1
		}
		if s.C.Kind == 5 || machine.Check(call.C) != api.OK {
			return api.ErrStep
		}
	}
	if p.waits[n] != 0 {
		return api.ErrStep
	}
	if s.C.Kind == 2 {
		p.seq[n]++
	}
	p.calls = append(p.calls, call)
	p.waits[n] = len(p.calls)
	return p.ask(s.Node, len(p.calls)-1)
}

func (p *plain) ask(n, call int) api.Errno {
	c := p.calls[call]
	if c.C.Kind == 0 {
		p.looks++
		p.rows = append(p.rows, row{node: n, look: p.looks, call: call})
		return p.input(n, api.Input{Kind: api.IRead, ID: p.looks})
	}
	b, e := machine.Put(c.C)
	right(p.t, e)
	if v := p.nodes[n].View(); v.Role == api.Leader {
		p.rows = append(p.rows, row{node: n, index: v.Index + len(v.Entries) + 1, term: v.Hard.Term, call: call})
	}
	return p.input(n, api.Input{Kind: api.IPropose, Data: b})
}

func (p *plain) input(n int, in api.Input) api.Errno {
	done := p.nodes[n].Handle(in)
	p.bag.Send(done.Send...)
	for _, a := range done.Answers {
		for _, x := range slices.Clone(p.rows) {
			if x.node == n && x.look == 0 && x.index == a.Index && x.term == a.Term {
				p.end(x.call, a.Index, a.Reply, nil)
			}
		}
	}
	for _, r := range done.Reads {
		for _, x := range slices.Clone(p.rows) {
			if x.node == n && x.look == r.ID {
				l, index := p.nodes[n].Lookup(p.calls[x.call].Trace)
				p.end(x.call, index, api.Reply{}, l)
			}
		}
	}
	if e := done.Err; e == api.ErrDown || e == api.ErrFull || e == api.ErrStore {
		p.halt(n)
	}
	return done.Err
}

func (p *plain) halt(n int) {
	p.nodes[n] = nil
	var l []row
	for _, x := range p.rows {
		if x.node != n {
			l = append(l, x)
		}
	}
	p.rows = l
}

func (p *plain) end(call, index int, r api.Reply, l []api.Branch) {
	c := &p.calls[call]
	n := c.Client
	if p.waits[n] != call+1 {
		p.count["told late"]++
		return
	}
	p.waits[n] = 0
	c.Ended, c.Index, c.Reply, c.Forest = p.steps, index, r, l
	p.count[fmt.Sprintf("call %d: %d", c.C.Kind, r.Err)]++
	if r.Err == api.ErrSession {
		p.session[n] = 0
	}
	if c.C.Kind == 1 && r.Err == api.OK {
		p.session[n], p.seq[n] = r.Session, 0
	}
}

// same fails unless a cluster tells just what a plain one has.
func (p *plain) same(c *cluster.Cluster) {
	p.t.Helper()
	if fmt.Sprintf("%+v", c.History()) != fmt.Sprintf("%+v", p.calls) {
		p.t.Fatalf("%+v\nnot %+v", c.History(), p.calls)
	}
	for _, id := range p.bag.List() {
		a, _ := p.bag.Peek(id)
		b, e := c.Peek(id)
		right(p.t, e)
		if fmt.Sprint(a) != fmt.Sprint(b) {
			p.t.Fatal(a, b)
		}
	}
	for n, x := range p.nodes {
		if x == nil {
			continue
		}
		y := c.Node(n)
		if fmt.Sprint(x.View()) != fmt.Sprint(y.View()) || string(x.Image()) != string(y.Image()) {
			p.t.Fatalf("%+v\nnot %+v", y.View(), x.View())
		}
	}
}

// near fails unless a cluster has the same clients, messages and nodes that run.
func (p *plain) near(c *cluster.Cluster) {
	p.t.Helper()
	if !slices.Equal(c.Waiting(), p.bag.List()) || c.Nodes() != len(p.nodes) {
		p.t.Fatal(c.Waiting(), p.bag.List())
	}
	for n, x := range p.nodes {
		if (c.Node(n) == nil) != (x == nil) {
			p.t.Fatal(n, "runs, or not")
		}
	}
	for n := range 4 {
		is(p.t, c, n, p.session[n], p.seq[n], p.waits[n] != 0)
	}
}

// pick is a number that may be strange.
func pick(r *rand.Rand, n int) int {
	if r.Intn(30) == 0 {
		return []int{-1, n, n + 1, 7, math.MinInt, math.MaxInt, -2}[r.Intn(7)]
	}
	return r.Intn(n)
}

// wanted is a command that somebody may want, or that can't be.
func wanted(r *rand.Rand) api.Command {
	switch n := r.Intn(40); {
	case n < 4:
		return opens()
	case n < 26:
		var l []api.Span
		for range 1 + r.Intn(4) {
			id := 1 + r.Intn(30)
			s := span(id)
			s.Trace, s.Parent = 1+r.Intn(4), max(0, id-1-r.Intn(9))
			l = append(l, s)
		}
		return ingest(l...)
	case n < 28:
		return expire(max(0, r.Intn(120)-20))
	case n < 30:
		return retain(r.Intn(20))
	case n < 31:
		return votes(0)
	case n < 32:
		return api.Command{Kind: pick(r, 6), Session: r.Intn(2), Seq: r.Intn(2), At: r.Intn(2)}
	}
	return api.Command{}
}

// step is a step of any kind, at one of some nodes or at who is known to lead, with messages on the way; most of them can be done.
func step(r *rand.Rand, nodes, lead int, l []int) api.Step {
	n, who, msg := pick(r, nodes), pick(r, 4), r.Intn(9)-2
	if r.Intn(3) > 0 {
		n = lead
	}
	if len(l) > 0 && r.Intn(40) > 0 {
		msg = l[r.Intn(min(8, len(l)))]
	}
	s := api.Step{Client: who, Node: n, Msg: msg, C: wanted(r), Trace: pick(r, 5), Timeout: 1 + r.Intn(8)}
	s.N, s.Keep, s.Tear = r.Intn(9), r.Intn(5), r.Intn(2)*r.Intn(300)
	k := r.Intn(200)
	if len(l) == 0 && r.Intn(20) > 0 {
		k = 110 + r.Intn(90)
	}
	switch {
	case k < 110:
		s.Kind = api.STake
	case k < 140:
		s.Kind = api.SCall
	case k < 154:
		s.Kind = api.STry
	case k < 155:
		s.Kind = api.SQuit
	case k < 175:
		s.Kind = api.STick
	case k < 180:
		s.Kind = api.SLose
	case k < 184:
		s.Kind = api.SDouble
	case k < 185:
		s.Kind = api.SCrash
	case k < 187:
		s.Kind = api.SArm
	case k < 190:
		s.Kind = api.SPack
	case k < 197:
		s.Kind = api.SStart
	case k < 199:
		s.Kind = api.SRoster
		for x := range nodes {
			if r.Intn(4) > 0 {
				s.Voters = append(s.Voters, x)
			}
		}
		if r.Intn(9) == 0 {
			s.Voters = append(s.Voters, pick(r, 7))
		}
	default:
		s.Kind = pick(r, 13)
	}
	return s
}

// roomy is a list with room behind its end, in which there is something.
func roomy[T any](l []T, behind T) []T {
	if l == nil {
		return nil
	}
	return append(slices.Clone(l), behind, behind)[: len(l) : len(l)+2]
}

// spoil writes over a list, and the room behind its end.
func spoil[T any](l []T, by T) {
	for i := range l[:cap(l)] {
		l[:cap(l)][i] = by
	}
}

// spoilAll writes over all that a cluster answers.
func spoilAll(c *cluster.Cluster) {
	l := c.History()
	for _, x := range l {
		spoil(x.C.Spans, api.Span{ID: 99})
		spoil(x.C.Voters, 99)
		spoil(x.Forest, api.Branch{Depth: 99})
	}
	spoil(l, api.Call{Client: 99})
	spoil(c.Waiting(), 99)
	for _, id := range c.Waiting() {
		m, _ := c.Peek(id)
		for _, e := range m.Entries {
			spoil(e.Data, 99)
		}
		spoil(m.Entries, api.Entry{Index: 99})
		spoil(m.Voters, 99)
		spoil(m.Data, 99)
	}
}

// twins has a cluster and a plain one take the same steps; all that went into the cluster, or came out of it, is spoiled then, if that is said.
func twins(t *testing.T, seed int64, room, steps int, spoils bool) *plain {
	t.Helper()
	r := rand.New(rand.NewSource(seed))
	nodes := 1 + r.Intn(5)
	var voters []int
	for n := range 1 + r.Intn(nodes) {
		voters = append(voters, n)
	}
	given := roomy(voters, 99)
	c, e := cluster.New(nodes, given, room, 3)
	right(t, e)
	if !slices.Equal(given[:cap(given)], append(slices.Clone(voters), 99, 99)) {
		t.Fatal("what was handed in has changed")
	}
	spoil(given, 99)
	p := newPlain(t, nodes, voters, room, 3)
	lead := 0
	for i := range steps {
		s := step(r, nodes, lead, p.bag.List())
		in := s
		in.Voters, in.C.Spans, in.C.Voters = roomy(s.Voters, 99), roomy(s.C.Spans, api.Span{ID: 99}), roomy(s.C.Voters, 99)
		was := fmt.Sprint(in, in.Voters[:cap(in.Voters)], in.C.Spans[:cap(in.C.Spans)])
		want := p.step(s)
		if e := c.Step(in); e != want {
			t.Fatalf("%d, %d: %+v: %d not %d", seed, i, s, e, want)
		}
		if fmt.Sprint(in, in.Voters[:cap(in.Voters)], in.C.Spans[:cap(in.C.Spans)]) != was {
			t.Fatal("what was handed in has changed")
		}
		if spoils {
			spoil(in.Voters, 99)
			spoil(in.C.Spans, api.Span{ID: 99})
			spoil(in.C.Voters, 99)
			spoilAll(c)
		}
		p.near(c)
		if i%16 == 0 || i == steps-1 {
			p.same(c)
		}
		if p.runs(s.Node) && p.nodes[s.Node].View().Role == api.Leader {
			lead = s.Node
		}
	}
	return p
}

// P15.1, P15.2: whatever the steps are, a cluster tells what one that is told line by line does, and nothing that goes in or out is shared.
func TestPlain(t *testing.T) {
	all := map[string]int{}
	for seed := range int64(40) {
		for k, n := range twins(t, seed, api.MaxRoom, 1500, seed%4 == 0).count {
			all[k] += n
		}
	}
	t.Log(all)
	for k, least := range map[string]int{"told late": 20, "call 0: 0": 300, "call 1: 0": 60, "call 2: 0": 200, "call 2: 80": 10, "call 3: 0": 10, "call 4: 0": 10, "step 4: 22": 5, "step 5: 22": 20, "step 8: 0": 50, "step 1: 150": 500, "step 2: 120": 20, "step 12: 0": 5} {
		if all[k] < least {
			t.Error(k, all[k])
		}
	}
}

// P15.2: the same where disks have little room.
func TestPlainLittleRoom(t *testing.T) {
	full := 0
	for seed := range int64(40) {
		p := twins(t, 1000+seed, 300+20*int(seed), 900, seed%8 == 0)
		for k, n := range p.count {
			if len(k) > 3 && k[len(k)-3:] == ": 7" {
				full += n
			}
		}
	}
	if full < 30 {
		t.Error("too few full disks:", full)
	}
}
