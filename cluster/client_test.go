package cluster_test

import (
	"math"
	"slices"
	"strings"
	"testing"

	"spandrel/api"
	"spandrel/cluster"
)

// P15.2: what each command comes to, and what is told of it.
func TestCalls(t *testing.T) {
	c := led(t, 1, 0)
	at := len(c.History())
	for i, x := range []struct {
		s     api.Step
		told  api.Call
		seat  int // of the client, then
		count int
	}{
		{call(3, 0, opens()), api.Call{C: opens(), Index: 2, Reply: isOpen(2)}, 2, 0},
		{call(3, 0, ingest(span(1), span(2))), api.Call{C: put(2, 1, span(1), span(2)), Index: 3, Reply: added(2)}, 2, 1},
		{call(3, 0, ingest(span(1))), api.Call{C: put(2, 2, span(1)), Index: 4, Reply: api.Reply{Counts: api.Counts{Same: 1}}}, 2, 2},
		{call(3, 0, put(77, -5, span(3))), api.Call{C: put(2, 3, span(3)), Index: 5, Reply: added(1)}, 2, 3},
		{look(3, 0, 1), api.Call{Trace: 1, Index: 5, Forest: tops(1, 2, 3)}, 2, 3},
		{look(3, 0, most), api.Call{Trace: most, Index: 5}, 2, 3},
		{call(3, 0, retain(0)), api.Call{C: retain(0), Index: 6}, 2, 3},
		{call(3, 0, retain(most+1)), api.Call{C: retain(most + 1), Index: 7, Reply: gone(1)}, 2, 3},
		{look(3, 0, 1), api.Call{Trace: 1, Index: 7}, 2, 3},
		{call(3, 0, expire(0)), api.Call{C: expire(0), Index: 8}, 2, 3},
		{call(3, 0, opens()), api.Call{C: opens(), Index: 9, Reply: isOpen(9)}, 9, 0},
		{call(3, 0, ingest(span(1))), api.Call{C: put(9, 1, span(1)), Index: 10, Reply: added(1)}, 9, 1},
		{call(3, 0, expire(most)), api.Call{C: expire(most), Index: 11, Reply: gone(2)}, 9, 1},
		{call(3, 0, ingest(span(1))), api.Call{C: put(9, 2, span(1)), Index: 12, Reply: fails(api.ErrSession)}, 0, 2},
		{look(3, 0, 1), api.Call{Trace: 1, Index: 12, Forest: tops(1)}, 0, 2},
	} {
		does(t, c, x.s)
		x.told.Client, x.told.Began, x.told.Ended = 3, 3+i, 3+i
		l := c.History()
		if len(l) != at+i+1 {
			t.Fatal(i, len(l))
		}
		tells(t, c, append(l[:at+i], x.told)...)
		is(t, c, 3, x.seat, x.count, false)
	}
	for n := range 3 {
		is(t, c, n, 0, 0, false)
	}
	refuses(t, c, api.ErrStep, call(3, 0, ingest(span(1))))
}

// P15.2: which calls can't be. None of them begins, or counts a number; the step is counted.
func TestNoCall(t *testing.T) {
	c := led(t, 1, 0)
	does(t, c, call(0, 0, opens()), call(0, 0, ingest(span(1))))
	was := c.History()
	l := []api.Step{
		look(0, 0, 0), look(0, 0, -1), look(0, 0, most+1), look(0, 0, math.MinInt), look(0, 0, math.MaxInt),
		call(0, 0, votes(0)), call(0, 0, votes()), call(0, 0, ingest()),
		call(0, 0, ingest(slices.Repeat([]api.Span{span(1)}, 9)...)),
		call(0, 0, ingest(api.Span{})), call(0, 0, ingest(span(1), span(0))),
		call(0, 0, ingest(api.Span{Trace: 1, ID: 1, Name: strings.Repeat("a", api.MaxName+1)})),
		call(0, 0, api.Command{Kind: 6}), call(0, 0, api.Command{Kind: -1}), call(0, 0, api.Command{Kind: math.MaxInt}),
		call(0, 0, expire(-1)), call(0, 0, expire(most+1)), call(0, 0, retain(-1)), call(0, 0, retain(most+2)),
		call(0, 0, api.Command{Kind: api.COpen, Session: 2}), call(0, 0, api.Command{Kind: api.COpen, Seq: 1}),
		call(0, 0, api.Command{Kind: api.COpen, At: 1}), call(0, 0, api.Command{Kind: api.COpen, Voters: []int{0}}),
		call(0, 0, api.Command{Kind: api.CIngest, Spans: []api.Span{span(1)}, At: 1}),
		call(0, 0, api.Command{Kind: api.CIngest, Spans: []api.Span{span(1)}, Voters: []int{0}}),
		call(0, 0, api.Command{Kind: api.CRetain, Seq: 4}),
		call(1, 0, ingest(span(1))), call(1, 0, put(2, 2, span(1))),
	}
	refuses(t, c, api.ErrStep, l...)
	tells(t, c, was...)
	is(t, c, 0, 2, 1, false)
	does(t, c, call(0, 0, ingest(slices.Repeat([]api.Span{span(1)}, 8)...)))
	if now := c.History(); now[2].Began != was[1].Began+len(l)+1 || now[2].C.Seq != 2 {
		t.Errorf("%+v", now[2])
	}
}

// P15.2: of a look all else than its trace is nothing, and of another call the trace is nothing; lists without anything are none.
func TestLeftOut(t *testing.T) {
	c := led(t, 1, 0)
	s := look(1, 0, 7)
	s.C = api.Command{Session: 3, Seq: -1, At: 9, Spans: []api.Span{{}}, Voters: []int{9}}
	does(t, c, s)
	s = call(1, 0, opens())
	s.Trace, s.C.Spans, s.C.Voters = 7, []api.Span{}, []int{}
	s.Timeout, s.Msg, s.N, s.Keep, s.Tear, s.Voters = 1, 2, 3, 4, 5, []int{6}
	does(t, c, s)
	tells(t, c, api.Call{Client: 1, Trace: 7, Began: 3, Ended: 3, Index: 1}, api.Call{Client: 1, C: opens(), Began: 4, Ended: 4, Index: 2, Reply: isOpen(2)})
	l := c.History()
	if l[1].C.Spans != nil || l[1].C.Voters != nil || l[0].C.Spans != nil || l[0].C.Voters != nil || l[0].Forest != nil {
		t.Errorf("%+v", l)
	}
}

// P15.2: who of clients and nodes there is not, and in which order that is asked.
func TestClientErrors(t *testing.T) {
	c := led(t, 2, 0, 1)
	does(t, c, crash(1, 0, 0), call(2, 0, opens()))
	is(t, c, 2, 0, 0, true)
	bad := api.Command{Kind: 9}
	for _, n := range []int{-1, 4, 5, math.MinInt, math.MaxInt} {
		refuses(t, c, api.ErrStep, call(n, 0, opens()), call(n, 1, opens()), call(n, 9, bad), try(n, 0), try(n, 1), quit(n))
	}
	for _, n := range []int{1, 2, -1, 7, math.MinInt, math.MaxInt} {
		refuses(t, c, api.ErrNode, call(0, n, opens()), call(0, n, bad), look(0, n, 1), look(0, n, 0), try(0, n), try(2, n), call(2, n, opens()))
	}
	refuses(t, c, api.ErrStep, call(2, 0, opens()), call(2, 0, bad), look(2, 0, 1), try(0, 0), quit(0))
	if l := c.History(); len(l) != 1 {
		t.Error(l)
	}
	does(t, c, api.Step{Kind: api.SQuit, Client: 2, Node: 77})
	is(t, c, 2, 0, 0, false)
	refuses(t, c, api.ErrStep, quit(2), try(2, 0))
}

// P15.2: a call begins though the node does not lead, whose error is the step's; the client tries another one.
func TestFollower(t *testing.T) {
	c := led(t, 3, 0, 1, 2)
	refuses(t, c, api.ErrLeader, call(0, 1, opens()), look(1, 2, 5), try(0, 2), try(1, 1))
	began := c.History()
	is(t, c, 0, 0, 0, true)
	is(t, c, 1, 0, 0, true)
	waiting(t, c)
	calm(t, c)
	tells(t, c, began...)
	does(t, c, try(1, 0), try(0, 0))
	calm(t, c)
	l := c.History()
	if l[0].Index != 2 || l[0].Reply != isOpen(2) || l[1].Index != 1 || l[1].Trace != 5 || l[1].Ended <= l[1].Began || l[0].Ended <= l[1].Ended {
		t.Errorf("%+v", l)
	}
	is(t, c, 0, 2, 0, false)
	refuses(t, c, api.ErrStep, try(0, 0), try(1, 0), quit(0), quit(1))
}

// P15.2: a number is counted when a call begins, whatever comes of it.
func TestCounted(t *testing.T) {
	c := led(t, 3, 0, 1, 2)
	does(t, c, call(0, 0, opens()))
	calm(t, c)
	refuses(t, c, api.ErrLeader, call(0, 1, ingest(span(1))))
	is(t, c, 0, 2, 1, true)
	refuses(t, c, api.ErrStep, call(0, 0, ingest(span(2))))
	is(t, c, 0, 2, 1, true)
	does(t, c, try(0, 0))
	calm(t, c)
	ended(t, c, 3, added(1))
	does(t, c, call(0, 0, ingest(span(2))))
	is(t, c, 0, 2, 2, true)
	calm(t, c)
	ended(t, c, 4, added(1))
}

// P15.2: who tries twice has two entries, of which the one that is done first tells what came of the call.
func TestTryTwice(t *testing.T) {
	c := led(t, 3, 0, 1, 2)
	does(t, c, call(0, 0, opens()))
	calm(t, c)
	does(t, c, call(0, 0, ingest(span(1))), try(0, 0), try(0, 0))
	calm(t, c)
	ended(t, c, 3, added(1))
	if v := c.Node(0).View(); v.Commit != 5 {
		t.Error(v)
	}
	if l, index := c.Node(0).Lookup(1); index != 5 || !slices.Equal(l, tops(1)) {
		t.Error(l, index)
	}
	was := c.History()
	does(t, c, call(0, 0, ingest(span(2))), try(0, 0))
	refuses(t, c, api.ErrLeader, try(0, 1))
	calm(t, c)
	ended(t, c, 6, added(1))
	tells(t, c, append(was, c.History()[2])...)
	is(t, c, 0, 2, 2, false)
}

// P15.2: of two entries with the same command, done at once, the first one tells; a COpen twice is two sessions.
func TestOpenTwice(t *testing.T) {
	c := led(t, 3, 0, 1, 2)
	does(t, c, call(0, 0, opens()), try(0, 0))
	calm(t, c)
	ended(t, c, 2, isOpen(2))
	is(t, c, 0, 2, 0, false)
	does(t, c, call(0, 0, ingest(span(1))))
	calm(t, c)
	ended(t, c, 4, added(1))
}

// P15.2: one who quits has no session, has counted nothing, and is told nothing more.
func TestQuit(t *testing.T) {
	c := led(t, 3, 0, 1, 2)
	does(t, c, call(0, 0, opens()))
	calm(t, c)
	does(t, c, call(0, 0, ingest(span(1))), quit(0))
	is(t, c, 0, 0, 0, false)
	was := c.History()
	waiting(t, c)
	calm(t, c)
	tells(t, c, was...)
	is(t, c, 0, 0, 0, false)
	refuses(t, c, api.ErrStep, call(0, 0, ingest(span(1))))
	does(t, c, look(0, 0, 1))
	calm(t, c)
	ended(t, c, 3, api.Reply{}, tops(1)...)
	does(t, c, call(0, 0, opens()), quit(0))
	calm(t, c)
	is(t, c, 0, 0, 0, false)
	does(t, c, call(0, 0, opens()))
	is(t, c, 0, 0, 0, true)
	calm(t, c)
	ended(t, c, 5, isOpen(5))
	is(t, c, 0, 5, 0, false)
}

// P15.2: one who quits, and wants something else, is not told what came of what it wanted first; nor do others hear of it.
func TestQuitAndWant(t *testing.T) {
	c := led(t, 3, 0, 1, 2)
	does(t, c, call(0, 0, opens()), quit(0), call(0, 0, retain(5)), call(1, 0, opens()))
	calm(t, c)
	l := c.History()
	if l[0].Ended != 0 || l[1].Index != 3 || l[1].Reply != gone(0) || l[2].Index != 4 || l[2].Reply != isOpen(4) {
		t.Errorf("%+v", l)
	}
	is(t, c, 0, 0, 0, false)
	is(t, c, 1, 4, 0, false)
}

// P15.2: what comes to an error leaves the session, but for ErrSession.
func TestReplies(t *testing.T) {
	c := led(t, 1, 0)
	for n := range api.MaxSessions {
		does(t, c, call(n%4, 0, opens()))
	}
	does(t, c, call(3, 0, ingest(span(1))), call(3, 0, opens()))
	ended(t, c, 11, fails(api.ErrFull))
	is(t, c, 3, 9, 1, false)
	does(t, c, call(3, 0, ingest(span(2))))
	ended(t, c, 12, added(1))
	is(t, c, 3, 9, 2, false)
	does(t, c, call(0, 0, expire(12)))
	ended(t, c, 13, gone(7))
	is(t, c, 2, 8, 0, false)
	does(t, c, call(2, 0, ingest(span(3))))
	ended(t, c, 14, fails(api.ErrSession))
	is(t, c, 2, 0, 1, false)
	does(t, c, call(2, 0, retain(0)))
	is(t, c, 2, 0, 1, false)
	does(t, c, call(2, 0, opens()))
	is(t, c, 2, 16, 0, false)
}

// P15.2: a look is of what the node has done by then, and its index is that; a look is answered by its own number.
func TestLooks(t *testing.T) {
	c := led(t, 3, 0, 1, 2)
	does(t, c, call(0, 0, opens()))
	calm(t, c)
	does(t, c, call(0, 0, ingest(span(1), api.Span{Trace: 2, ID: 9, Name: "b"})))
	calm(t, c)
	does(t, c, look(0, 0, 1), look(1, 0, 2), look(2, 0, 3))
	is(t, c, 1, 0, 0, true)
	calm(t, c)
	l := c.History()[2:]
	b := api.Branch{Span: api.Span{Trace: 2, ID: 9, Name: "b"}}
	if !slices.Equal(l[0].Forest, tops(1)) || !slices.Equal(l[1].Forest, []api.Branch{b}) || l[2].Forest != nil {
		t.Errorf("%+v", l)
	}
	for _, x := range l {
		if x.Index != 3 || x.Ended == 0 || x.Reply != (api.Reply{}) || x.C.Kind != api.CNone {
			t.Errorf("%+v", x)
		}
	}
	is(t, c, 0, 2, 1, false)
}

// P15.2: a look that is answered where more was done by then shows that, too, and tells its index.
func TestLateLook(t *testing.T) {
	c := led(t, 3, 0, 1, 2)
	does(t, c, call(0, 0, opens()))
	calm(t, c)
	was := c.Waiting()
	does(t, c, call(0, 0, ingest(span(1))), look(1, 0, 1))
	l := c.Waiting()
	if len(was) != 0 || len(l) != 4 {
		t.Fatal(l)
	}
	does(t, c, take(l[0]))
	does(t, c, take(c.Waiting()[3]))
	ended := c.History()
	if ended[1].Reply != added(1) || ended[2].Ended != 0 {
		t.Fatalf("%+v", ended)
	}
	calm(t, c)
	x := c.History()[2]
	if x.Index != 3 || !slices.Equal(x.Forest, tops(1)) {
		t.Errorf("%+v", x)
	}
}

// P15.2: a look that was tried twice ends with the first that is answered; at a node that leads no more none is (DOC.md, the fourth example).
func TestStaleLook(t *testing.T) {
	c := led(t, 3, 0, 1, 2)
	does(t, c, call(0, 0, opens()))
	calm(t, c)
	does(t, c, look(1, 0, 1))
	loses(t, c)
	does(t, c, tick(1), tick(1))
	for _, id := range c.Waiting() {
		if m, _ := c.Peek(id); m.To == 0 {
			does(t, c, lose(id))
		}
	}
	for c.Node(1).View().Role != api.Leader {
		does(t, c, take(c.Waiting()[0]))
	}
	loses(t, c)
	refuses(t, c, api.ErrBusy, try(1, 1))
	waiting(t, c)
	does(t, c, tick(1), look(2, 0, 1))
	if old := c.Node(0).View(); old.Role != api.Leader {
		t.Fatal(old)
	}
	calm(t, c)
	for _, x := range c.History()[1:] {
		if x.Ended != 0 {
			t.Errorf("%+v", x)
		}
	}
	does(t, c, try(1, 1), try(2, 1))
	calm(t, c)
	for _, x := range c.History()[1:] {
		if x.Ended == 0 || x.Index != 3 {
			t.Errorf("%+v", x)
		}
	}
}

// P15.2: who led when it was asked, and nobody else, tells what came of the entry of that index and term, though it leads no more then; an entry of another term tells nothing.
func TestTerms(t *testing.T) {
	for _, comes := range []bool{true, false} {
		c := led(t, 3, 0, 1, 2)
		does(t, c, call(0, 0, opens()))
		for _, id := range c.Waiting() {
			if m, _ := c.Peek(id); !comes || m.To == 2 {
				does(t, c, lose(id))
			}
		}
		if comes {
			does(t, c, take(c.Waiting()[0]))
			loses(t, c)
		}
		was := c.Node(0).View()
		for range 3 {
			if c.Node(0).View().Commit < 2 {
				waiting(t, c)
			}
			does(t, c, tick(1))
			calm(t, c)
		}
		v := c.Node(0).View()
		if was.Commit != 1 || v.Role != api.Follower || v.Leader != 2 {
			t.Fatal(was, v)
		}
		if comes {
			ended(t, c, 2, isOpen(2))
			is(t, c, 0, 2, 0, false)
			continue
		}
		waiting(t, c)
		is(t, c, 0, 0, 0, true)
		does(t, c, try(0, 1))
		calm(t, c)
		ended(t, c, 3, isOpen(3))
	}
}

// P15.2: asks of a node that stopped are forgotten, so that what it does later tells nobody; others' are not.
func TestForgotten(t *testing.T) {
	struck := func(t *testing.T, c *cluster.Cluster) {
		does(t, c, arm(0, 1, 0, 0))
		refuses(t, c, api.ErrDown, call(3, 0, opens()))
	}
	for name, stop := range map[string]func(t *testing.T, c *cluster.Cluster){
		"crash": func(t *testing.T, c *cluster.Cluster) { does(t, c, crash(0, 0, 0)) },
		"act":   struck,
	} {
		c := led(t, 3, 0, 1, 2)
		does(t, c, call(0, 0, opens()))
		loses(t, c)
		stop(t, c)
		does(t, c, start(0), tick(0))
		calm(t, c)
		does(t, c, tick(0))
		calm(t, c)
		if v := c.Node(0).View(); v.Role != api.Leader || v.Commit != 3 {
			t.Fatalf("%s: %+v", name, v)
		}
		if l := c.History(); l[0].Ended != 0 {
			t.Errorf("%s: %+v", name, l)
		}
		is(t, c, 0, 0, 0, true)
		does(t, c, try(0, 0))
		calm(t, c)
		if l := c.History(); l[0].Index != 4 || l[0].Reply != isOpen(4) {
			t.Errorf("%s: %+v", name, l)
		}
	}
}

// P15.2: asks of others than the node that stopped stay.
func TestOthersStay(t *testing.T) {
	c := led(t, 3, 0, 1, 2)
	does(t, c, call(0, 0, opens()), crash(2, 0, 0))
	calm(t, c)
	ended(t, c, 2, isOpen(2))
}

// P15.2: a look of a node that crashed is forgotten, and numbers of looks go on.
func TestLookForgotten(t *testing.T) {
	c := led(t, 3, 0, 1, 2)
	does(t, c, look(0, 0, 1), crash(0, 0, 0))
	calm(t, c)
	waiting(t, c)
	does(t, c, start(0), tick(0))
	calm(t, c)
	does(t, c, look(1, 0, 2))
	calm(t, c)
	l := c.History()
	if l[0].Ended != 0 || l[1].Ended == 0 {
		t.Errorf("%+v", l)
	}
	is(t, c, 0, 0, 0, true)
	does(t, c, try(0, 0))
	calm(t, c)
	if l := c.History(); l[0].Ended == 0 || l[0].Trace != 1 {
		t.Errorf("%+v", l)
	}
}
