package cluster

import (
	"slices"

	"spandrel/api"
	"spandrel/machine"
)

// mostTrace is the greatest number of a trace.
const mostTrace = 1 << 40

// client is who wants things done, one behind the other.
type client struct {
	session int // 0: none
	seq     int // what it counted last
	waits   bool
	call    int // the place in the history of the call for which it waits
}

// mark is where the answer to what a node was asked will stand: the index and the term of an entry, or the number of a look.
type mark struct {
	node        int
	index, term int
	look        int // 0: it is an entry's
}

// ask is a call at a node.
type ask struct {
	mark
	call int // its place in the history
}

// isClient tells whether there is a client of a number.
func isClient(n int) bool { return 0 <= n && n < api.MaxClients }

// own is a command with lists of its own.
func own(c api.Command) api.Command {
	c.Spans = append([]api.Span(nil), c.Spans...)
	c.Voters = append([]int(nil), c.Voters...)
	return c
}

// serve does a step of a client.
func (c *cluster) serve(s api.Step) error {
	if !isClient(s.Client) {
		return noStep()
	}
	who := &c.clients[s.Client]
	switch {
	case s.Kind == api.SQuit && !who.waits:
		return noStep()
	case s.Kind == api.SQuit:
		c.drop(who.call)
		*who = client{}
		return nil
	case !c.runs(s.Node):
		return noNode()
	case s.Kind == api.SCall:
		return c.begin(s)
	case !who.waits:
		return noStep()
	}
	return c.ask(who.call, s.Node)
}

// begin has a client want something, if that can be.
func (c *cluster) begin(s api.Step) error {
	who := &c.clients[s.Client]
	call, may := who.wants(s)
	if who.waits || !may {
		return noStep()
	}
	if call.C.Kind == api.CIngest {
		who.seq = call.C.Seq
	}
	call.Began = c.steps
	who.waits, who.call = true, len(c.calls)
	c.calls = append(c.calls, call)
	return c.ask(who.call, s.Node)
}

// wants is the call of a step, and whether it can be.
func (who client) wants(s api.Step) (api.Call, bool) {
	if s.C.Kind == api.CNone {
		return api.Call{Client: s.Client, Trace: s.Trace}, 1 <= s.Trace && s.Trace <= mostTrace
	}
	want := own(s.C)
	if want.Kind == api.CIngest {
		want.Session, want.Seq = who.session, who.seq+1
	}
	return api.Call{Client: s.Client, C: want}, want.Kind != api.CRoster && machine.Check(want) == api.OK
}

// ask asks a node for a call. What it answers may come at once, so that the ask is there ahead of it.
func (c *cluster) ask(call, n int) error {
	want := c.calls[call].C
	if want.Kind == api.CNone {
		c.looks++
		c.asks = append(c.asks, ask{mark{node: n, look: c.looks}, call})
		return c.handle(n, api.Input{Kind: api.IRead, ID: c.looks})
	}
	if v := c.places[n].node.View(); v.Role == api.Leader {
		last := v.Index + len(v.Entries)
		c.asks = append(c.asks, ask{mark{node: n, index: last + 1, term: v.Hard.Term}, call})
	}
	data, _ := machine.Put(want)
	return c.handle(n, api.Input{Kind: api.IPropose, Data: data})
}

// asked is the calls of all asks with a mark, in their order.
func (c *cluster) asked(m mark) []int {
	var l []int
	for _, a := range c.asks {
		if a.mark == m {
			l = append(l, a.call)
		}
	}
	return l
}

// end tells a client what came of the call for which it waits.
func (c *cluster) end(call, index int, r api.Reply, forest []api.Branch) {
	c.drop(call)
	now := &c.calls[call]
	now.Ended, now.Index, now.Reply, now.Forest = c.steps, index, r, forest
	who := &c.clients[now.Client]
	who.waits = false
	switch {
	case r.Err == api.ErrSession:
		who.session = 0
	case r.Err == api.OK && now.C.Kind == api.COpen:
		who.session, who.seq = r.Session, 0
	}
}

// drop forgets all asks of a call: nobody waits for it any more.
func (c *cluster) drop(call int) {
	c.forget(func(a ask) bool { return a.call == call })
}

// forget takes asks away.
func (c *cluster) forget(some func(ask) bool) { c.asks = slices.DeleteFunc(c.asks, some) }
