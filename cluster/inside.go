package cluster

import (
	"slices"
	"strconv"

	"spandrel/api"
	"spandrel/disk"
	"spandrel/net"
	"spandrel/node"
)

// place is a node's disk, which is there whether the node runs or not, and the node.
type place struct {
	disk *disk.Disk
	node *node.Node // nil: it does not run
}

// cluster is messages on the way, whose calls are its own, between nodes, and clients who ask these.
type cluster struct {
	*net.Net
	voters  []int // the first ones
	places  []place
	clients [api.MaxClients]client
	calls   []api.Call // the history
	asks    []ask      // of calls for which a client waits, alone
	looks   int        // the number of the look that was asked for last
	steps   int
}

// step does a step, which is counted whatever comes of it.
func (c *cluster) step(s api.Step) error {
	c.steps++
	switch s.Kind {
	case api.SCall, api.STry, api.SQuit:
		return c.serve(s)
	case api.STake:
		return c.bring(s.Msg)
	case api.SLose:
		return refused("the net", c.Lose(s.Msg))
	case api.SDouble:
		return refused("the net", c.Double(s.Msg))
	case api.STick, api.SCrash, api.SArm, api.SPack, api.SStart, api.SRoster:
		return c.drive(s)
	}
	return noStep()
}

// has tells whether all of some numbers are nodes of the cluster.
func (c *cluster) has(l ...int) bool {
	return !slices.ContainsFunc(l, func(n int) bool { return n < 0 || n >= len(c.places) })
}

// runs tells whether there is a node of a number, and it runs.
func (c *cluster) runs(n int) bool { return c.has(n) && c.places[n].node != nil }

// bring has a message come; to a node that does not run it is lost.
func (c *cluster) bring(id int) error {
	m, e := c.Take(id)
	if e != api.OK {
		return refused("the net", e)
	}
	if !c.runs(m.To) {
		return nil
	}
	return c.handle(m.To, api.Input{Kind: api.IMsg, Msg: m})
}

// drive does a step of a node.
func (c *cluster) drive(s api.Step) error {
	switch {
	case !c.has(s.Node):
		return noStep()
	case c.runs(s.Node) == (s.Kind == api.SStart):
		return noNode()
	case s.Kind == api.SRoster && !c.has(s.Voters...):
		return noStep()
	}
	switch s.Kind {
	case api.STick:
		return c.handle(s.Node, api.Input{Kind: api.ITick, Timeout: s.Timeout})
	case api.SPack:
		return c.handle(s.Node, api.Input{Kind: api.IPack})
	case api.SRoster:
		return c.handle(s.Node, api.Input{Kind: api.IRoster, Voters: s.Voters})
	}
	return c.power(s)
}

// power does a step of a node's power.
func (c *cluster) power(s api.Step) error {
	e, d := api.OK, c.places[s.Node].disk
	switch s.Kind {
	case api.SCrash:
		e = d.Crash(s.Keep, s.Tear)
		c.stop(s.Node)
	case api.SArm:
		e = d.Arm(s.N, s.Keep, s.Tear)
	case api.SStart:
		d.Start()
		e = c.open(s.Node, s.Timeout)
	}
	return refused("the disk of "+strconv.Itoa(s.Node), e)
}

// open has a node run, if its disk lets it.
func (c *cluster) open(n, timeout int) (e api.Errno) {
	at := &c.places[n]
	at.node, e = node.Open(n, at.disk, c.voters, timeout)
	return e
}

// stop has a node run no more. Whatever it was asked, it will not answer.
func (c *cluster) stop(n int) {
	c.places[n].node = nil
	c.forget(func(a ask) bool { return a.node == n })
}

// handle has a node take an input: its messages are on the way, and those who asked for what it answers are told.
func (c *cluster) handle(n int, in api.Input) error {
	at := c.places[n].node
	done := at.Handle(in)
	c.Send(done.Send...)
	for _, a := range done.Answers {
		for _, call := range c.asked(mark{node: n, index: a.Index, term: a.Term}) {
			c.end(call, a.Index, a.Reply, nil)
		}
	}
	for _, r := range done.Reads {
		for _, call := range c.asked(mark{node: n, look: r.ID}) {
			// The node may have done more by now than what the look must show.
			forest, index := at.Lookup(c.calls[call].Trace)
			c.end(call, index, api.Reply{}, forest)
		}
	}
	err := refused("node "+strconv.Itoa(n), done.Err)
	if ends(err) {
		c.stop(n)
	}
	return err
}
