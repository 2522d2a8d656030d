package cluster_test

import (
	"fmt"
	"math"
	"slices"
	"testing"

	"spandrel/api"
	"spandrel/cluster"
	"spandrel/wire"
)

// seen is all that a cluster tells of itself, but for its history's numbers of steps.
func seen(t *testing.T, c *cluster.Cluster) string {
	t.Helper()
	s := fmt.Sprintf("%+v %d", c.Waiting(), c.Nodes())
	for _, id := range c.Waiting() {
		m, e := c.Peek(id)
		right(t, e)
		s += fmt.Sprintf(" %+v", m)
	}
	for n := range api.MaxClients {
		session, seq, waits := c.Client(n)
		s += fmt.Sprint(" ", session, seq, waits)
	}
	for n := range c.Nodes() {
		if at := c.Node(n); at != nil {
			s += fmt.Sprintf(" %+v %x", at.View(), at.Image())
		}
	}
	return s + fmt.Sprintf(" %+v", c.History())
}

// began is the number of the step behind the last one, told by a call that ends at once.
func began(t *testing.T, c *cluster.Cluster) int {
	t.Helper()
	c.Step(look(0, 0, 1))
	l := c.History()
	return l[len(l)-1].Began
}

// P15.2: a kind that is none is ErrStep, whatever else the step says, and nothing is done.
func TestKinds(t *testing.T) {
	c := led(t, 1, 0)
	at := began(t, c)
	was := seen(t, c)
	l := []int{0, -1, 13, 14, 100, math.MinInt, math.MaxInt}
	for _, kind := range l {
		refuses(t, c, api.ErrStep, api.Step{Kind: kind}, api.Step{Kind: kind, Client: 9, Node: 9, Msg: 9, C: opens(), Voters: []int{9}, Trace: 1})
	}
	if seen(t, c) != was {
		t.Error(was)
	}
	if now := began(t, c); now != at+2*len(l)+1 {
		t.Error(at, now)
	}
}

// P15.2: each step is counted, those that come to nothing too; that is what Began and Ended are numbers of.
func TestSteps(t *testing.T) {
	c := led(t, 2, 0)
	at := began(t, c)
	l := []api.Step{{}, quit(0), quit(7), try(0, 0), try(0, 9), call(0, 0, votes(0)), look(0, 9, 1), look(0, 0, 0), take(99), lose(99), double(99), tick(9), tick(0), crash(9, 0, 0), crash(1, 0, 0), tick(1), start(9), start(0), start(1), start(1), arm(9, 0, 0, 0), arm(0, 0, 0, 0), pack(9), pack(0), pack(0), other(9), other(0), other(0, 5)}
	for i, s := range l {
		c.Step(s)
		if now := began(t, c); now != at+2*i+2 {
			t.Fatalf("%+v: %d %d", s, at+2*i+2, now)
		}
	}
	for _, x := range c.History() {
		if x.Ended != x.Began {
			t.Errorf("%+v", x)
		}
	}
}

// P15.2: which node there is not, or does not run, or runs; ErrStep comes first.
func TestNodeErrors(t *testing.T) {
	c := led(t, 3, 0, 1, 2)
	does(t, c, crash(2, 0, 0))
	was := seen(t, c)
	for _, n := range []int{-1, 3, 4, 7, math.MinInt, math.MaxInt} {
		refuses(t, c, api.ErrStep, tick(n), crash(n, 0, 0), arm(n, 1, 0, 0), pack(n), start(n), other(n, 0, 1), other(n, 9))
	}
	refuses(t, c, api.ErrNode, tick(2), crash(2, 0, 0), arm(2, 1, 0, 0), pack(2), other(2, 0, 1), other(2, 9), other(2), start(0), start(1))
	refuses(t, c, api.ErrStep, other(0, 3), other(0, 0, 1, 2, 3), other(0, -1, 0, 1, 2), other(1, 7), other(0, math.MinInt), other(1, math.MaxInt))
	refuses(t, c, api.ErrLeader, other(1, 0, 1), other(1), other(1, 2, 1))
	refuses(t, c, api.ErrRoster, other(0, 1, 0), other(0, 0, 0, 1, 2))
	refuses(t, c, api.ErrChange, other(0), other(0, 0, 1, 2), other(0, 1, 2), other(0, 0))
	if seen(t, c) != was {
		t.Error("something has changed")
	}
	does(t, c, start(2), tick(2))
}

// P15.2: messages that are not there.
func TestNoMessage(t *testing.T) {
	c := fresh(t, 3, 0, 1, 2)
	does(t, c, tick(0), lose(1), take(2))
	was := seen(t, c)
	for _, id := range []int{1, 2, 0, -1, 4, math.MinInt, math.MaxInt} {
		refuses(t, c, api.ErrLink, take(id), lose(id), double(id))
	}
	if seen(t, c) != was || !slices.Equal(c.Waiting(), []int{3}) {
		t.Error(c.Waiting())
	}
}

// P15.2: a message is lost, comes twice, or comes to whom it is for; its answer is on the way behind all others.
func TestMessages(t *testing.T) {
	c := fresh(t, 3, 0, 1, 2)
	does(t, c, tick(0), double(2), double(1), lose(1))
	if l := c.Waiting(); !slices.Equal(l, []int{2, 3, 4}) {
		t.Fatal(l)
	}
	for id, to := range map[int]int{2: 2, 3: 2, 4: 1} {
		if m, e := c.Peek(id); e != api.OK || m.To != to || m.Kind != api.MVote {
			t.Error(id, m, e)
		}
	}
	does(t, c, take(3))
	if l := c.Waiting(); !slices.Equal(l, []int{2, 4, 5}) {
		t.Fatal(l)
	}
	if m, e := c.Peek(5); e != api.OK || m.Kind != api.MVoted || m.From != 2 || m.To != 0 || !m.Yes {
		t.Error(m, e)
	}
	if c.Node(2).View().Hard != (api.Hard{Term: 1, Vote: 1}) || c.Node(1).View().Hard != (api.Hard{}) {
		t.Error("another one heard it")
	}
	does(t, c, take(2), take(6), take(5))
	if v := c.Node(0).View(); v.Role != api.Leader {
		t.Error(v)
	}
	if l := c.Waiting(); !slices.Equal(l, []int{4, 7, 8}) {
		t.Error(l)
	}
}

// P15.2: what comes to a node that does not run is lost, and no error.
func TestLost(t *testing.T) {
	c := fresh(t, 3, 0, 1, 2)
	does(t, c, tick(0), crash(1, 0, 0), take(1))
	if l := c.Waiting(); !slices.Equal(l, []int{2}) {
		t.Error(l)
	}
	does(t, c, start(1))
	if v := c.Node(1).View(); v.Hard != (api.Hard{}) {
		t.Error(v)
	}
}

// P15.2: a bag that is full takes nothing more; whoever stands there has nothing sent, and Double is ErrFull, of which no node stops.
func TestFullBag(t *testing.T) {
	c := fresh(t, 3, 0, 1, 2)
	does(t, c, tick(0))
	for range api.MaxBag - 3 {
		does(t, c, double(1))
	}
	does(t, c, tick(0))
	if l := c.Waiting(); len(l) != api.MaxBag || l[api.MaxBag-1] != api.MaxBag {
		t.Fatal(len(l))
	}
	refuses(t, c, api.ErrFull, double(1), double(api.MaxBag))
	refuses(t, c, api.ErrLink, double(api.MaxBag+1))
	if m, _ := c.Peek(api.MaxBag); m.To != 1 || m.Term != 2 {
		t.Error(m)
	}
	for n := range 3 {
		if c.Node(n) == nil {
			t.Error(n)
		}
	}
	does(t, c, lose(5), double(2))
	if l := c.Waiting(); l[api.MaxBag-1] != api.MaxBag+1 {
		t.Error(l)
	}
}

// P15.2: time passes at one node, and the timeout that is drawn is its next one.
func TestTick(t *testing.T) {
	c := fresh(t, 3, 0, 1, 2)
	stands := func(n, term int) {
		t.Helper()
		if v := c.Node(n).View(); v.Role != api.Candidate || v.Hard.Term != term {
			t.Error(n, v)
		}
	}
	does(t, c, api.Step{Kind: api.STick, Timeout: 4})
	stands(0, 1)
	for range 3 {
		does(t, c, api.Step{Kind: api.STick, Timeout: 2})
		stands(0, 1)
	}
	does(t, c, api.Step{Kind: api.STick, Timeout: -3})
	stands(0, 2)
	does(t, c, api.Step{Kind: api.STick, Timeout: math.MaxInt})
	stands(0, 3)
	for range 999 {
		does(t, c, tick(0))
	}
	stands(0, 3)
	does(t, c, tick(0))
	stands(0, 4)
	for n := range 2 {
		if v := c.Node(n + 1).View(); v.Role != api.Follower || v.Hard.Term != 0 {
			t.Error(v)
		}
	}
}

// P15.2: a node that starts has the timeout that is drawn, and the voters of the beginning as long as it knows no others.
func TestStart(t *testing.T) {
	c := fresh(t, 4, 0, 1, 3)
	does(t, c, crash(1, 0, 0), crash(2, 0, 0), api.Step{Kind: api.SStart, Node: 1, Timeout: 3, Voters: []int{1}}, start(2))
	for i := range 3 {
		v := c.Node(1).View()
		if fmt.Sprintf("%+v", v) != fmt.Sprintf("%+v", api.View{ID: 1, Voters: []int{0, 1, 3}}) {
			t.Errorf("%d %+v", i, v)
		}
		does(t, c, tick(1))
	}
	if v := c.Node(1).View(); v.Role != api.Candidate {
		t.Error(v)
	}
	if v := c.Node(2).View(); !slices.Equal(v.Voters, []int{0, 1, 3}) || v.ID != 2 {
		t.Error(v)
	}
	does(t, c, crash(3, 0, 0), api.Step{Kind: api.SStart, Node: 3, Timeout: math.MinInt}, tick(3))
	if v := c.Node(3).View(); v.Role != api.Candidate {
		t.Error(v)
	}
}

// P15.2: voters change by a node that leads, and are asked to; who starts again knows them.
func TestRoster(t *testing.T) {
	c := led(t, 4, 0, 1, 2)
	does(t, c, other(0, 0, 1, 2, 3))
	refuses(t, c, api.ErrBusy, other(0, 0, 1, 2))
	calm(t, c)
	does(t, c, tick(0))
	calm(t, c)
	for n := range 4 {
		if v := c.Node(n).View(); v.Commit != 2 || !slices.Equal(v.Voters, []int{0, 1, 2, 3}) {
			t.Error(v)
		}
	}
	does(t, c, crash(0, 0, 0), start(0))
	if v := c.Node(0).View(); !slices.Equal(v.Voters, []int{0, 1, 2, 3}) {
		t.Error(v)
	}
	if l := c.History(); l != nil {
		t.Error(l)
	}
}

// P15.2: a node keeps its state in place of entries, and hands it over in pieces (DOC.md, the seventh example).
func TestPack(t *testing.T) {
	c := led(t, 3, 0, 1, 2)
	does(t, c, crash(2, 0, 0), call(0, 0, opens()))
	calm(t, c)
	for i := range 12 {
		var l []api.Span
		for id := range 8 {
			l = append(l, api.Span{Trace: 1 + i, ID: 1 + id, Name: "a-name-that-fills-some-pieces"})
		}
		does(t, c, call(0, 0, ingest(l...)))
		calm(t, c)
	}
	does(t, c, pack(0))
	refuses(t, c, api.ErrIndex, pack(0))
	does(t, c, start(2), tick(0))
	pieces := 0
	for len(c.Waiting()) > 0 {
		if m, _ := c.Peek(c.Waiting()[0]); m.Kind == api.MInstall {
			pieces++
		}
		does(t, c, take(c.Waiting()[0]))
	}
	if pieces < 6 || string(c.Node(2).Image()) != string(c.Node(0).Image()) {
		t.Error(pieces)
	}
	was, v := c.Node(2).Image(), c.Node(2).View()
	does(t, c, crash(2, 0, 0), start(2))
	if string(c.Node(2).Image()) != string(was) || v.Index != 14 || c.Node(2).View().Index != 14 {
		t.Errorf("%+v", v)
	}
}

// acts is how many acts and syncs of its disk a node does at a step: the first that is not struck.
func acts(t *testing.T, build func() *cluster.Cluster, s api.Step) int {
	t.Helper()
	for n := 1; ; n++ {
		c := build()
		does(t, c, arm(s.Node, n, 0, 0))
		switch e := c.Step(s); {
		case e == api.OK:
			return n - 1
		case e != api.ErrDown || n > 100:
			t.Fatal(n, e)
		case c.Node(s.Node) != nil:
			t.Fatal("it runs")
		}
		refuses(t, c, api.ErrNode, tick(s.Node), s)
	}
}

// P15.2: the power goes at an act that is counted from then on; what is kept and torn is as the step says.
func TestArm(t *testing.T) {
	build := func() *cluster.Cluster {
		c := led(t, 1, 0)
		does(t, c, call(0, 0, opens()))
		return c
	}
	if n := acts(t, build, tick(0)); n != 0 {
		t.Error(n)
	}
	for name, x := range map[string]struct {
		n, keep, tear int
		entries       int // there are then
	}{
		"nothing is kept":     {n: 1, entries: 2},
		"it is kept":          {n: 1, keep: 1, entries: 3},
		"all is kept":         {n: 1, keep: 99, entries: 3},
		"it is torn":          {n: 1, keep: 1, tear: 1, entries: 2},
		"a sync, all is kept": {n: 2, keep: 1, entries: 3},
		"a sync":              {n: 2, entries: 2},
		"torn by less than 0": {n: 1, keep: 1, tear: -1, entries: 3},
		"less than 0 is kept": {n: 1, keep: -1, entries: 2},
	} {
		c := build()
		does(t, c, arm(0, x.n, x.keep, x.tear))
		refuses(t, c, api.ErrDown, call(0, 0, ingest(span(1))))
		if c.Node(0) != nil {
			t.Error(name)
		}
		waiting(t, c)
		is(t, c, 0, 2, 1, true)
		refuses(t, c, api.ErrNode, try(0, 0))
		does(t, c, start(0))
		if v := c.Node(0).View(); len(v.Entries) != x.entries {
			t.Error(name, v)
		}
		does(t, c, tick(0))
		waiting(t, c)
		does(t, c, try(0, 0))
		ended(t, c, x.entries+2, added(1))
	}
}

// P15.2: what was armed is armed no more, if that is said, or the power goes ahead of it.
func TestDisarmed(t *testing.T) {
	c := led(t, 1, 0)
	does(t, c, arm(0, 1, 0, 0), arm(0, 0, 0, 0), call(0, 0, opens()), arm(0, 1, 0, 0), arm(0, -5, 9, 9), call(0, 0, retain(0)))
	does(t, c, arm(0, 1, 0, 0), crash(0, 0, 0), start(0), tick(0), call(0, 0, retain(0)))
	does(t, c, arm(0, 3, 0, 0), call(0, 0, retain(0)))
	refuses(t, c, api.ErrDown, call(0, 0, retain(0)))
}

// P15.2: what was told is kept, whatever a crash keeps and tears.
func TestCrash(t *testing.T) {
	for _, keep := range []int{0, 1, -1, 99, math.MinInt, math.MaxInt} {
		for _, tear := range []int{0, 1, -1, 99, math.MinInt, math.MaxInt} {
			c := led(t, 1, 0)
			does(t, c, call(0, 0, opens()), call(0, 0, ingest(span(1))))
			v := c.Node(0).View()
			does(t, c, crash(0, keep, tear))
			if c.Node(0) != nil || c.Nodes() != 1 {
				t.Error("it runs")
			}
			does(t, c, start(0))
			now := c.Node(0).View()
			if now.Hard != v.Hard || fmt.Sprint(now.Entries) != fmt.Sprint(v.Entries) || now.Role != api.Follower || now.Commit != 0 {
				t.Error(keep, tear, now)
			}
			does(t, c, tick(0), look(0, 0, 1))
			ended(t, c, 4, api.Reply{}, tops(1)...)
		}
	}
}

// P15.2: what a crash keeps of what does not last yet, and tears, is as the step says. A node that others than steps asked for something has that.
func TestCrashKeeps(t *testing.T) {
	for _, x := range []struct{ keep, tear, term int }{{0, 0, 0}, {-1, 0, 0}, {math.MinInt, 0, 0}, {1, 0, 7}, {9, -1, 7}, {math.MaxInt, math.MinInt, 7}, {1, 1, 0}, {9, 9, 0}, {9, math.MaxInt, 0}} {
		c, e := cluster.New(1, []int{0}, 200, 1)
		right(t, e)
		long := api.Entry{Index: 1, Term: 7, Data: make([]byte, 300)}
		done := c.Node(0).Handle(api.Input{Kind: api.IMsg, Msg: api.Msg{Kind: api.MAppend, From: 1, Term: 7, Entries: []api.Entry{long}}})
		if done.Err != api.ErrFull {
			t.Fatal(done)
		}
		does(t, c, crash(0, x.keep, x.tear), start(0))
		if v := c.Node(0).View(); v.Hard != (api.Hard{Term: x.term}) || v.Entries != nil {
			t.Errorf("%+v %+v", x, v)
		}
	}
}

// P15.2: a node that others than steps asked for something, of which its disk's power went, runs till a step finds that out.
func TestPowerGone(t *testing.T) {
	for _, s := range []api.Step{call(1, 0, opens()), crash(0, 0, 0)} {
		c := led(t, 1, 0)
		does(t, c, arm(0, 1, 0, 0))
		if done := c.Node(0).Handle(api.Input{Kind: api.IPropose, Data: []byte{api.COpen}}); done.Err != api.ErrDown {
			t.Fatal(done)
		}
		refuses(t, c, api.ErrDown, arm(0, 1, 0, 0))
		if c.Node(0) == nil {
			t.Error("it does not run")
		}
		refuses(t, c, api.ErrDown, s)
		if c.Node(0) != nil {
			t.Error("it runs")
		}
		does(t, c, start(0), tick(0))
	}
}

// P15.2: a step that has no use for something takes it as nothing.
func TestLeftOutOfNodes(t *testing.T) {
	c := led(t, 3, 0, 1, 2)
	s := api.Step{Client: 9, Node: 0, C: votes(9), Trace: -1, Timeout: -1, Msg: 99, N: -1, Keep: -1, Tear: -1, Voters: []int{9}}
	for _, kind := range []int{api.STick, api.SPack, api.SArm, api.SCrash, api.SStart} {
		s.Kind = kind
		does(t, c, s)
	}
	s.Node, s.Msg = 9, c.Waiting()[0]
	for _, kind := range []int{api.SDouble, api.STake} {
		s.Kind = kind
		does(t, c, s)
	}
	s.Kind, s.Msg = api.SLose, c.Waiting()[0]
	does(t, c, s)
}

// P15.2: a node whose disk has no more room stops; what was told is there when it starts again.
func TestFullDisk(t *testing.T) {
	for room := 20; room < 400; room += 3 {
		c, e := cluster.New(1, []int{0}, room, 1)
		right(t, e)
		e = c.Step(tick(0))
		for e == api.OK {
			e = c.Step(call(0, 0, opens()))
		}
		if e != api.ErrFull || c.Node(0) != nil {
			t.Fatal(room, e)
		}
		refuses(t, c, api.ErrNode, tick(0), crash(0, 0, 0), arm(0, 1, 0, 0), call(1, 0, opens()), look(1, 0, 1))
		told := 0
		for _, x := range c.History() {
			told = max(told, x.Index)
		}
		does(t, c, start(0))
		if v := c.Node(0).View(); len(v.Entries) < told {
			t.Error(room, told, v)
		}
	}
}

// P15.2: a start that the disk refuses is that error, and the node does not run; the next start may do.
func TestStartFails(t *testing.T) {
	c := led(t, 1, 0)
	does(t, c, call(0, 0, opens()))
	n := c.Node(0)
	bad := api.Msg{Kind: api.MInstall, From: 1, Term: 9, Index: 99, LogTerm: 9, Voters: []int{0}, Done: true, Data: []byte("no state")}
	if done := n.Handle(api.Input{Kind: api.IMsg, Msg: bad}); done.Err != api.ErrStore {
		t.Fatal(done)
	}
	if c.Node(0) != n {
		t.Error("the cluster has not heard of it")
	}
	refuses(t, c, api.ErrStore, tick(0))
	if c.Node(0) != nil {
		t.Error("it runs")
	}
	refuses(t, c, api.ErrNode, tick(0))
	refuses(t, c, api.ErrStore, start(0), start(0))
	if c.Node(0) != nil {
		t.Error("it runs")
	}
}

// P15.2: a node stops at ErrFull, whoever has no more room: here no index is left.
func TestNoIndexLeft(t *testing.T) {
	c := fresh(t, 1, 0)
	image := wire.Join(wire.Number(nil, most-1), []byte{1, 1, 0, 1, 0, 1, 0})
	all := api.Msg{Kind: api.MInstall, From: 1, Term: 1, Index: most - 1, LogTerm: 1, Voters: []int{0}, Done: true, Data: image}
	right(t, c.Node(0).Handle(api.Input{Kind: api.IMsg, Msg: all}).Err)
	does(t, c, tick(0), look(0, 0, 1))
	ended(t, c, most, api.Reply{})
	refuses(t, c, api.ErrFull, call(0, 0, opens()))
	is(t, c, 0, 0, 0, true)
	refuses(t, c, api.ErrNode, try(0, 0))
	does(t, c, start(0))
	if v := c.Node(0).View(); v.Index != most-1 {
		t.Error(v)
	}
}

// P15.2: an error that is raft's leaves the node, but for ErrFull.
func TestNodeStays(t *testing.T) {
	c := led(t, 3, 0, 1, 2)
	refuses(t, c, api.ErrLeader, call(0, 1, opens()), look(1, 1, 1), other(1, 0, 1))
	does(t, c, pack(1))
	refuses(t, c, api.ErrIndex, pack(1))
	does(t, c, other(0, 0, 1))
	refuses(t, c, api.ErrBusy, other(0, 0))
	for n := range 3 {
		if c.Node(n) == nil {
			t.Error(n)
		}
	}
	does(t, c, try(0, 0), try(1, 0))
	calm(t, c)
	for _, x := range c.History() {
		if x.Ended == 0 {
			t.Error(x)
		}
	}
}
