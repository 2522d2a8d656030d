package cluster_test

import (
	"fmt"
	"math"
	"slices"
	"testing"

	"spandrel/api"
	"spandrel/cluster"
	"spandrel/raft"
)

// most is the greatest number of a trace, of a time, of an index.
const most = 1 << 40

// plenty is room for all that the tests keep.
const plenty = 1 << 20

// right fails unless there is no error.
func right(t *testing.T, l ...api.Errno) {
	t.Helper()
	for i, e := range l {
		if e != api.OK {
			t.Fatal(i, e)
		}
	}
}

// fresh is a cluster of some nodes, of which some vote; the node n stands at its tick n and 1.
func fresh(t *testing.T, nodes int, voters ...int) *cluster.Cluster {
	t.Helper()
	c, e := cluster.New(nodes, voters, plenty, 1)
	right(t, e)
	return c
}

// led is one whose node 0 leads, and has entry 1 committed, as the others know; no message is on the way.
func led(t *testing.T, nodes int, voters ...int) *cluster.Cluster {
	t.Helper()
	c := fresh(t, nodes, voters...)
	does(t, c, tick(0))
	calm(t, c)
	does(t, c, tick(0))
	calm(t, c)
	for _, n := range voters {
		if v := c.Node(n).View(); v.Commit != 1 || v.Leader != 1 {
			t.Fatalf("%+v", v)
		}
	}
	return c
}

// does fails unless all of some steps are done.
func does(t *testing.T, c *cluster.Cluster, l ...api.Step) {
	t.Helper()
	refuses(t, c, api.OK, l...)
}

// refuses fails unless each of some steps answers an error.
func refuses(t *testing.T, c *cluster.Cluster, want api.Errno, l ...api.Step) {
	t.Helper()
	for _, s := range l {
		if e := c.Step(s); e != want {
			t.Fatalf("%+v: %d not %d", s, e, want)
		}
	}
}

// calm has all messages come, and those that they lead to.
func calm(t *testing.T, c *cluster.Cluster) {
	t.Helper()
	for n := 0; len(c.Waiting()) > 0; n++ {
		if n > 20000 {
			t.Fatal("messages without an end")
		}
		does(t, c, take(c.Waiting()[0]))
	}
}

// loses has all messages lost.
func loses(t *testing.T, c *cluster.Cluster) {
	t.Helper()
	for _, id := range c.Waiting() {
		does(t, c, lose(id))
	}
}

// Commands.
func opens() api.Command         { return api.Command{Kind: api.COpen} }
func expire(at int) api.Command  { return api.Command{Kind: api.CExpire, At: at} }
func retain(at int) api.Command  { return api.Command{Kind: api.CRetain, At: at} }
func votes(l ...int) api.Command { return api.Command{Kind: api.CRoster, Voters: l} }
func ingest(l ...api.Span) api.Command {
	return api.Command{Kind: api.CIngest, Spans: l}
}

// put is an ingest of a session and a number.
func put(session, seq int, l ...api.Span) api.Command {
	return api.Command{Kind: api.CIngest, Session: session, Seq: seq, Spans: l}
}

// span is one of trace 1.
func span(id int) api.Span {
	return api.Span{Trace: 1, ID: id, Start: id, End: id + 5, Name: "work"}
}

// tops is a forest of such spans, all of them at the top.
func tops(ids ...int) []api.Branch {
	var l []api.Branch
	for _, id := range ids {
		l = append(l, api.Branch{Span: span(id)})
	}
	return l
}

// Replies.
func isOpen(n int) api.Reply        { return api.Reply{Session: n} }
func added(n int) api.Reply         { return api.Reply{Counts: api.Counts{Added: n}} }
func gone(n int) api.Reply          { return api.Reply{Gone: n} }
func fails(why api.Errno) api.Reply { return api.Reply{Err: why} }

// Steps.
func call(client, n int, c api.Command) api.Step {
	return api.Step{Kind: api.SCall, Client: client, Node: n, C: c}
}
func look(client, n, trace int) api.Step {
	return api.Step{Kind: api.SCall, Client: client, Node: n, Trace: trace}
}
func try(client, n int) api.Step { return api.Step{Kind: api.STry, Client: client, Node: n} }
func quit(client int) api.Step   { return api.Step{Kind: api.SQuit, Client: client} }
func tick(n int) api.Step        { return api.Step{Kind: api.STick, Node: n, Timeout: 1} }
func take(msg int) api.Step      { return api.Step{Kind: api.STake, Msg: msg} }
func lose(msg int) api.Step      { return api.Step{Kind: api.SLose, Msg: msg} }
func double(msg int) api.Step    { return api.Step{Kind: api.SDouble, Msg: msg} }
func pack(n int) api.Step        { return api.Step{Kind: api.SPack, Node: n} }
func start(n int) api.Step       { return api.Step{Kind: api.SStart, Node: n, Timeout: 1} }
func crash(n, keep, tear int) api.Step {
	return api.Step{Kind: api.SCrash, Node: n, Keep: keep, Tear: tear}
}
func arm(n, act, keep, tear int) api.Step {
	return api.Step{Kind: api.SArm, Node: n, N: act, Keep: keep, Tear: tear}
}
func other(n int, voters ...int) api.Step {
	return api.Step{Kind: api.SRoster, Node: n, Voters: voters}
}

// tells fails unless the history is just that.
func tells(t *testing.T, c *cluster.Cluster, want ...api.Call) {
	t.Helper()
	l := c.History()
	if fmt.Sprintf("%+v", l) != fmt.Sprintf("%+v", want) {
		t.Fatalf("\n%+v not\n%+v", l, want)
	}
}

// ended fails unless the last call of the history ended with that.
func ended(t *testing.T, c *cluster.Cluster, index int, r api.Reply, forest ...api.Branch) {
	t.Helper()
	l := c.History()
	last := l[len(l)-1]
	if last.Ended == 0 || last.Index != index || last.Reply != r || !slices.Equal(last.Forest, forest) {
		t.Fatalf("%+v not %d %+v %+v", last, index, r, forest)
	}
}

// waiting fails unless the last call of the history has not ended.
func waiting(t *testing.T, c *cluster.Cluster) {
	t.Helper()
	l := c.History()
	if last := l[len(l)-1]; last.Ended != 0 || last.Index != 0 || last.Reply != (api.Reply{}) || last.Forest != nil {
		t.Fatalf("%+v", last)
	}
}

// is fails unless a client has that session, counted that, and waits or not.
func is(t *testing.T, c *cluster.Cluster, n, session, seq int, waits bool) {
	t.Helper()
	if s, q, w := c.Client(n); s != session || q != seq || w != waits {
		t.Fatal(n, s, q, w, "not", session, seq, waits)
	}
}

// The chapter's example.
func TestExample(t *testing.T) {
	c, e := cluster.New(1, []int{0}, 100000, 1)
	right(t, e)
	does(t, c, tick(0), call(0, 0, opens()), call(0, 0, ingest(span(1))), look(0, 0, 1))
	if v := c.Node(0).View(); v.Role != api.Leader {
		t.Error(v)
	}
	tells(t, c, api.Call{C: opens(), Began: 2, Ended: 2, Index: 2, Reply: isOpen(2)},
		api.Call{C: put(2, 1, span(1)), Began: 3, Ended: 3, Index: 3, Reply: added(1)},
		api.Call{Trace: 1, Began: 4, Ended: 4, Index: 3, Forest: tops(1)})
	c = led(t, 2, 0, 1)
	does(t, c, call(0, 0, opens()))
	refuses(t, c, api.ErrStep, look(0, 0, 1))
}

// P15.1: which clusters there are, and which error comes first.
func TestNew(t *testing.T) {
	all := []int{0, 1, 2, 3, 4, 5, 6}
	for _, x := range []struct {
		nodes  int
		voters []int
		room   int
		e      api.Errno
	}{
		{1, all[:1], 0, api.OK},
		{1, all[:1], api.MaxRoom, api.OK},
		{7, all, 100, api.OK},
		{7, all[6:], 100, api.OK},
		{7, []int{1, 3}, 100, api.OK},
		{3, all[:3], 100, api.OK},
		{0, all[:1], 100, api.ErrArg},
		{0, nil, 100, api.ErrArg},
		{8, all, 100, api.ErrArg},
		{8, []int{7}, -1, api.ErrArg},
		{-1, all[:1], 100, api.ErrArg},
		{math.MinInt, all[:1], 100, api.ErrArg},
		{math.MaxInt, all[:1], 100, api.ErrArg},
		{3, nil, 100, api.ErrRoster},
		{3, []int{}, -1, api.ErrRoster},
		{3, []int{0, 3}, 100, api.ErrRoster},
		{3, []int{3}, -1, api.ErrRoster},
		{3, []int{-1, 0}, 100, api.ErrRoster},
		{3, []int{1, 0}, 100, api.ErrRoster},
		{3, []int{1, 1}, 100, api.ErrRoster},
		{3, []int{math.MinInt}, 100, api.ErrRoster},
		{3, []int{math.MaxInt}, 100, api.ErrRoster},
		{7, append(slices.Clone(all), 7), 100, api.ErrRoster},
		{3, all[:3], -1, api.ErrArg},
		{3, all[:3], api.MaxRoom + 1, api.ErrArg},
		{3, all[:3], math.MaxInt, api.ErrArg},
	} {
		c, e := cluster.New(x.nodes, x.voters, x.room, 3)
		if e != x.e || (c == nil) != (e != api.OK) {
			t.Error(x, c, e)
			continue
		}
		if e == api.OK {
			begins(t, c, x.nodes, x.voters)
		}
	}
}

// begins fails unless a cluster is one that has done nothing yet.
func begins(t *testing.T, c *cluster.Cluster, nodes int, voters []int) {
	t.Helper()
	if c.Nodes() != nodes || c.Waiting() != nil || c.History() != nil {
		t.Error(c.Nodes(), c.Waiting(), c.History())
	}
	for n := range nodes {
		want := api.View{ID: n, Voters: voters}
		if v := c.Node(n).View(); fmt.Sprintf("%+v", v) != fmt.Sprintf("%+v", want) {
			t.Errorf("%+v", v)
		}
	}
	for _, n := range []int{-1, nodes, nodes + 1, 7, math.MinInt, math.MaxInt} {
		if c.Node(n) != nil {
			t.Error(n)
		}
	}
	for _, n := range []int{0, 1, 2, 3, 4, -1, math.MinInt, math.MaxInt} {
		is(t, c, n, 0, 0, false)
	}
	for _, id := range []int{0, 1, -1} {
		if m, e := c.Peek(id); e != api.ErrLink || fmt.Sprint(m) != fmt.Sprint(api.Msg{}) {
			t.Error(m, e)
		}
	}
}

// P15.1: a timeout is more by a node's number, at most 1000, and at least 1.
func TestTimeouts(t *testing.T) {
	voters := []int{0, 1, 2, 3, 4, 5, 6}
	for timeout, want := range map[int][7]int{
		1:               {1, 2, 3, 4, 5, 6, 7},
		10:              {10, 11, 12, 13, 14, 15, 16},
		-2:              {1, 1, 1, 1, 2, 3, 4},
		0:               {1, 1, 2, 3, 4, 5, 6},
		997:             {997, 998, 999, 1000, 1000, 1000, 1000},
		math.MinInt:     {1, 1, 1, 1, 1, 1, 1},
		math.MaxInt:     {1000, 1000, 1000, 1000, 1000, 1000, 1000},
		math.MaxInt - 3: {1000, 1000, 1000, 1000, 1000, 1000, 1000},
	} {
		c, e := cluster.New(7, voters, plenty, timeout)
		right(t, e)
		for n, many := range want {
			for range many - 1 {
				does(t, c, tick(n))
			}
			if v := c.Node(n).View(); v.Role != api.Follower {
				t.Error(timeout, n, "stands ahead of", many)
			}
			does(t, c, tick(n))
			if v := c.Node(n).View(); v.Role != api.Candidate {
				t.Error(timeout, n, "does not stand at", many)
			}
		}
	}
}

// P15.1: a node that has room for nothing is opened, for a node writes nothing then.
func TestNoRoom(t *testing.T) {
	c, e := cluster.New(1, []int{0}, 0, 1)
	right(t, e)
	refuses(t, c, api.ErrFull, tick(0))
	if c.Node(0) != nil {
		t.Error("it runs")
	}
}

// DOC.md, Objects: a cluster that New did not make.
func TestNoCluster(t *testing.T) {
	for _, c := range []*cluster.Cluster{nil, {}, new(cluster.Cluster)} {
		for _, s := range []api.Step{{}, tick(0), call(0, 0, opens()), take(1), {Kind: -1}} {
			refuses(t, c, api.ErrNil, s)
		}
		if c.Nodes() != 0 || c.Node(0) != nil || c.Waiting() != nil || c.History() != nil {
			t.Error(c)
		}
		is(t, c, 0, 0, 0, false)
		if m, e := c.Peek(1); e != api.ErrNil || fmt.Sprint(m) != fmt.Sprint(api.Msg{}) {
			t.Error(m, e)
		}
	}
}

// P15.1: what is on the way, and each message.
func TestPeek(t *testing.T) {
	c := fresh(t, 3, 0, 1, 2)
	does(t, c, tick(0))
	vote := api.Msg{Kind: api.MVote, Term: 1}
	if l := c.Waiting(); !slices.Equal(l, []int{1, 2}) {
		t.Fatal(l)
	}
	for id := range 4 {
		m, e := c.Peek(id)
		vote.To = id
		switch there := id == 1 || id == 2; {
		case there && (e != api.OK || fmt.Sprint(m) != fmt.Sprint(vote) || raft.Check(m) != api.OK):
			t.Error(m, e)
		case !there && (e != api.ErrLink || fmt.Sprint(m) != fmt.Sprint(api.Msg{})):
			t.Error(m, e)
		}
	}
	if l := c.Waiting(); !slices.Equal(l, []int{1, 2}) {
		t.Error(l)
	}
}

// P15.1: a node is the node itself, of which others than steps may ask.
func TestNodeItself(t *testing.T) {
	c := led(t, 1, 0)
	does(t, c, call(0, 0, opens()), call(0, 0, ingest(span(4))))
	n := c.Node(0)
	if l, index := n.Lookup(1); !slices.Equal(l, tops(4)) || index != 3 || n != c.Node(0) {
		t.Error(l, index)
	}
	right(t, n.Pack().Err)
	if v := c.Node(0).View(); v.Index != 3 {
		t.Error(v)
	}
}
