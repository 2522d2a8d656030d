package cluster_test

import (
	"fmt"
	"slices"
	"testing"

	"spandrel/api"
	"spandrel/cluster"
)

// says has a client want something at a node, and all messages come: what it was told.
func says(t *testing.T, c *cluster.Cluster, s api.Step) api.Call {
	t.Helper()
	does(t, c, s)
	calm(t, c)
	l := c.History()
	last := l[len(l)-1]
	if last.Ended == 0 {
		t.Fatalf("%+v", last)
	}
	return last
}

// leads has time pass at a node until it leads, and all know what it has.
func leads(t *testing.T, c *cluster.Cluster, n int) {
	t.Helper()
	for range 8 {
		does(t, c, tick(n))
		calm(t, c)
	}
	if v := c.Node(n).View(); v.Role != api.Leader {
		t.Fatalf("%+v", v)
	}
}

// forest fails unless a look at trace 1 shows just that.
func forest(t *testing.T, c *cluster.Cluster, n int, want ...api.Branch) {
	t.Helper()
	if l := says(t, c, look(3, n, 1)).Forest; !slices.Equal(l, want) {
		t.Fatalf("%+v not %+v", l, want)
	}
}

// DOC.md, the first and the second example of the whole: an orphan, the same span twice, and another one of its number.
func TestOrphan(t *testing.T) {
	c := led(t, 3, 0, 1, 2)
	whole, part := span(1), span(2)
	part.Parent = 1
	says(t, c, call(0, 0, opens()))
	if r := says(t, c, call(0, 0, ingest(part))).Reply; r != added(1) {
		t.Error(r)
	}
	forest(t, c, 0, api.Branch{Orphan: true, Span: part})
	says(t, c, call(0, 0, ingest(whole)))
	forest(t, c, 0, api.Branch{Span: whole}, api.Branch{Depth: 1, Span: part})
	late := whole
	late.Name = "another"
	if r := says(t, c, call(0, 0, ingest(whole, late))).Reply; r.Counts != (api.Counts{Same: 1, Other: 1}) {
		t.Error(r)
	}
	forest(t, c, 0, api.Branch{Span: whole}, api.Branch{Depth: 1, Span: part})
}

// DOC.md, the third example of the whole, P2: an answer is lost with who led; the next one tells what that would have told.
func TestAnswerLost(t *testing.T) {
	for _, told := range []bool{false, true} {
		c := led(t, 3, 0, 1, 2)
		says(t, c, call(0, 0, opens()))
		does(t, c, call(0, 0, ingest(span(1), span(2))))
		if told {
			does(t, c, take(c.Waiting()[0]))
		}
		waiting(t, c)
		does(t, c, crash(0, 0, 0))
		if !told {
			loses(t, c)
		}
		calm(t, c)
		leads(t, c, 1)
		waiting(t, c)
		does(t, c, try(0, 1))
		calm(t, c)
		index := 4
		if told {
			index = 5
		}
		ended(t, c, index, added(2))
		forest(t, c, 1, tops(1, 2)...)
		is(t, c, 0, 2, 1, false)
		says(t, c, call(0, 1, ingest(span(3))))
		ended(t, c, index+1, added(1))
	}
}

// DOC.md, the fifth example of the whole, P3: all crash at once, in the midst of an act; what was answered is there.
func TestAllCrash(t *testing.T) {
	for act := 1; act < 8; act++ {
		for keep := range 4 {
			c := led(t, 3, 0, 1, 2)
			says(t, c, call(0, 0, opens()))
			says(t, c, call(0, 0, ingest(span(1))))
			for n := range 3 {
				does(t, c, arm(n, act, keep, 3))
			}
			for i := 2; c.Node(0) != nil; i++ {
				c.Step(call(0, 0, ingest(span(i))))
				c.Step(try(0, 0))
				for n := 0; n < 20 && len(c.Waiting()) > 0; n++ {
					c.Step(take(c.Waiting()[0]))
				}
			}
			loses(t, c)
			for n := range 3 {
				if c.Node(n) != nil {
					does(t, c, crash(n, keep, 3))
				}
				does(t, c, start(n))
			}
			newest := 0
			for n := range 3 {
				if len(c.Node(n).View().Entries) > len(c.Node(newest).View().Entries) {
					newest = n
				}
			}
			leads(t, c, newest)
			l := says(t, c, look(2, newest, 1)).Forest
			for _, x := range c.History() {
				if x.Ended != 0 && x.C.Kind == api.CIngest && !slices.ContainsFunc(l, func(b api.Branch) bool { return b.Span == x.C.Spans[0] }) {
					t.Errorf("%d, %d: %+v is not in %+v", act, keep, x, l)
				}
			}
			if len(l) == 0 {
				t.Error("nothing is there")
			}
		}
	}
}

// DOC.md, the sixth example of the whole: half a record at the end of the log is cut off when the node starts.
func TestHalfRecord(t *testing.T) {
	for tear := 1; tear < 40; tear++ {
		c := led(t, 1, 0)
		says(t, c, call(0, 0, opens()))
		was := c.Node(0).View()
		does(t, c, arm(0, 1, 1, tear))
		refuses(t, c, api.ErrDown, call(0, 0, ingest(span(1))))
		does(t, c, start(0))
		if v := c.Node(0).View(); fmt.Sprint(v.Entries) != fmt.Sprint(was.Entries) || v.Hard != was.Hard {
			t.Error(tear, v)
		}
		does(t, c, tick(0), try(0, 0))
		ended(t, c, 4, added(1))
	}
}

// DOC.md, the eighth example of the whole: one voter joins, another one leaves, one change at a time.
func TestVotersChange(t *testing.T) {
	c := led(t, 4, 0, 1, 2)
	says(t, c, call(0, 0, opens()))
	does(t, c, other(0, 0, 1, 2, 3))
	refuses(t, c, api.ErrBusy, other(0, 0, 1))
	calm(t, c)
	does(t, c, other(0, 0, 1, 3))
	refuses(t, c, api.ErrBusy, other(0, 0, 3))
	calm(t, c)
	says(t, c, call(0, 0, ingest(span(1))))
	leads(t, c, 3)
	if v := c.Node(3).View(); !slices.Equal(v.Voters, []int{0, 1, 3}) {
		t.Error(v)
	}
	forest(t, c, 3, tops(1)...)
	does(t, c, crash(2, 0, 0), crash(0, 0, 0))
	forest(t, c, 3, tops(1)...)
}

// DOC.md, the ninth example of the whole, P2: a session that rested is ended; its client is told, and nothing is put in.
func TestRested(t *testing.T) {
	c := led(t, 3, 0, 1, 2)
	says(t, c, call(0, 0, opens()))
	says(t, c, call(1, 0, opens()))
	if r := says(t, c, call(1, 0, expire(3))).Reply; r != gone(1) {
		t.Error(r)
	}
	is(t, c, 0, 2, 0, false)
	if r := says(t, c, call(0, 0, ingest(span(1)))).Reply; r != fails(api.ErrSession) {
		t.Error(r)
	}
	is(t, c, 0, 0, 1, false)
	forest(t, c, 0)
	refuses(t, c, api.ErrStep, call(0, 0, ingest(span(1))))
	if r := says(t, c, call(1, 0, ingest(span(1)))).Reply; r != added(1) {
		t.Error(r)
	}
}

// P2: who tried, and whose session ended between its entries, is told so by one that put nothing in.
func TestEndedBetween(t *testing.T) {
	c := led(t, 3, 0, 1, 2)
	says(t, c, call(0, 0, opens()))
	does(t, c, call(0, 0, ingest(span(1))), crash(0, 0, 0))
	calm(t, c)
	leads(t, c, 1)
	waiting(t, c)
	says(t, c, call(1, 1, expire(9)))
	does(t, c, try(0, 1))
	calm(t, c)
	l := c.History()
	if l[1].Reply != fails(api.ErrSession) || l[1].Index != 6 {
		t.Errorf("%+v", l[1])
	}
	is(t, c, 0, 0, 1, false)
	forest(t, c, 1, tops(1)...)
}

// DOC.md, the tenth example of the whole: a trace is let go, at all nodes by the same time.
func TestLetGo(t *testing.T) {
	c := led(t, 3, 0, 1, 2)
	says(t, c, call(0, 0, opens()))
	old := api.Span{Trace: 2, ID: 1, Start: 1, End: 5, Name: "old"}
	says(t, c, call(0, 0, ingest(span(1), old)))
	if r := says(t, c, call(0, 0, retain(5))).Reply; r != gone(0) {
		t.Error(r)
	}
	if r := says(t, c, call(0, 0, retain(6))).Reply; r != gone(1) {
		t.Error(r)
	}
	forest(t, c, 0, tops(1)...)
	if l := says(t, c, look(0, 0, 2)).Forest; l != nil {
		t.Error(l)
	}
	leads(t, c, 0)
	for n := range 3 {
		if string(c.Node(n).Image()) != string(c.Node(0).Image()) {
			t.Error(n)
		}
	}
}

// DOC.md, Objects: two clusters know nothing of one another.
func TestApart(t *testing.T) {
	a, b := led(t, 3, 0, 1, 2), led(t, 3, 0, 1, 2)
	was := seen(t, b)
	says(t, a, call(0, 0, opens()))
	does(t, a, call(1, 0, retain(9)), crash(2, 0, 0), look(3, 0, 1), quit(1))
	if seen(t, b) != was {
		t.Error("the other one has changed")
	}
	says(t, b, call(0, 0, opens()))
	ended(t, b, 2, isOpen(2))
	if a.Node(2) != nil || b.Node(2) == nil {
		t.Error("the wrong one crashed")
	}
}
