package audit_test

import (
	"math"
	"math/rand"
	"slices"
	"testing"

	"spandrel/api"
	"spandrel/audit"
	"spandrel/machine"
)

// P16.2: a look at each index is what the entries up to there had put in, and let go.
func TestExplainedLooks(t *testing.T) {
	log, _ := story()
	for index, want := range [][]api.Branch{nil, nil, nil, branches(span(1)), branches(span(1)), branches(span(1), span(2)), branches(span(1), span(2)), branches(span(1), span(2)), branches(span(1), span(2)), branches(span(1), span(2)), branches(span(1), span(2)), nil} {
		for other, f := range [][]api.Branch{nil, {}, branches(span(1)), branches(span(1), span(2)), branches(span(2), span(1)), branches(span(2)), branches(span(1), span(2), span(2))} {
			c := looked(index, 1, f...)
			if got := audit.Explained(three, log, c); got != slices.Equal(f, want) {
				t.Error(index, other, got)
			}
		}
	}
}

// P16.2: of a look all of the forest is asked: depths, orphans, each field of a span.
func TestExplainedForest(t *testing.T) {
	child := api.Span{Trace: 1, ID: 2, Parent: 1, Start: 2, End: 3, Name: "part"}
	lost := api.Span{Trace: 1, ID: 3, Parent: 9, Start: 2, End: 3, Name: "lost"}
	log := logOf(opens(), ingest(1, 1, child, lost, span(1), root(2, 1)))
	f := []api.Branch{{Span: span(1)}, {Depth: 1, Span: child}, {Orphan: true, Span: lost}}
	if !audit.Explained(three, log, looked(2, 1, f...)) || !audit.Explained(three, log, looked(2, 2, branches(root(2, 1))...)) {
		t.Fatal("the forest itself")
	}
	for i := range f {
		for name, turn := range map[string]func(*api.Branch){
			"depth":  func(b *api.Branch) { b.Depth++ },
			"orphan": func(b *api.Branch) { b.Orphan = !b.Orphan },
			"trace":  func(b *api.Branch) { b.Span.Trace++ },
			"id":     func(b *api.Branch) { b.Span.ID += 7 },
			"parent": func(b *api.Branch) { b.Span.Parent += 7 },
			"start":  func(b *api.Branch) { b.Span.Start-- },
			"end":    func(b *api.Branch) { b.Span.End++ },
			"name":   func(b *api.Branch) { b.Span.Name += "x" },
		} {
			other := slices.Clone(f)
			turn(&other[i])
			if audit.Explained(three, log, looked(2, 1, other...)) {
				t.Error(i, name)
			}
		}
		if audit.Explained(three, log, looked(2, 1, slices.Delete(slices.Clone(f), i, i+1)...)) {
			t.Error(i, "is missing")
		}
	}
	for _, trace := range []int{2, 3, 0, -1, most, most + 1, math.MaxInt, math.MinInt} {
		if audit.Explained(three, log, looked(2, trace, f...)) || audit.Explained(three, log, looked(2, trace)) != (trace != 2) {
			t.Error(trace)
		}
	}
}

// P16.2: a look's index is 0 to as many as there are replies, and it has no reply.
func TestExplainedLookEdges(t *testing.T) {
	log, replies := story()
	for _, index := range []int{0, 1, 2, len(log)} {
		if !audit.Explained(three, log, looked(index, 1)) {
			t.Error(index)
		}
	}
	for _, index := range []int{-1, len(log) + 1, most, math.MinInt, math.MaxInt} {
		if audit.Explained(three, log, looked(index, 1)) {
			t.Error(index)
		}
	}
	for _, r := range append(replies, api.Reply{Err: -1}, api.Reply{Counts: api.Counts{Full: 1}}, api.Reply{Counts: api.Counts{Cycle: 1}}, api.Reply{Counts: api.Counts{Other: 1}}) {
		c := looked(2, 1)
		c.Reply = r
		if audit.Explained(three, log, c) != (r == api.Reply{}) {
			t.Error(r)
		}
	}
	log[4].Index++
	if !audit.Explained(three, log, looked(4, 1, branches(span(1))...)) || audit.Explained(three, log, looked(5, 1, branches(span(1))...)) || audit.Explained(three, log, looked(5, 1, branches(span(1), span(2))...)) {
		t.Error("replies end at the entry 4")
	}
}

// P16.2: a call is what the entry at its index says, if that is just its command.
func TestExplainedCalls(t *testing.T) {
	log, replies := story()
	for at, x := range log {
		own, e := machine.Get(x.Data)
		if e != api.OK {
			t.Fatal(e)
		}
		for index := -1; index <= len(log)+1; index++ {
			for _, r := range append(replies, api.Reply{Err: -1}, api.Reply{Gone: 2}) {
				want := own.Kind != api.CNone && index >= 1 && index <= len(log) && slices.Equal(log[index-1].Data, x.Data) && r == replies[index-1]
				if own.Kind == api.CNone {
					// With the Kind CNone it is a look, at no trace.
					want = index >= 0 && index <= len(log) && r == api.Reply{}
				}
				if got := audit.Explained(three, log, told(index, own, r)); got != want {
					t.Error(at, index, r, got)
				}
			}
		}
	}
}

// P16.2: the entry has the bytes of the call's command, of all of it.
func TestExplainedCommands(t *testing.T) {
	log, replies := story()
	for name, c := range map[string]api.Command{
		"another session":        ingest(4, 1, span(1)),
		"another number":         ingest(2, 2, span(1)),
		"another span":           ingest(2, 1, span(2)),
		"more spans":             ingest(2, 1, span(1), span(1)),
		"no spans":               ingest(2, 1),
		"a time":                 {Kind: api.CIngest, Session: 2, Seq: 1, Spans: []api.Span{span(1)}, At: 1},
		"voters":                 {Kind: api.CIngest, Session: 2, Seq: 1, Spans: []api.Span{span(1)}, Voters: []int{1}},
		"a kind that is none":    {Kind: 6, Session: 2, Seq: 1, Spans: []api.Span{span(1)}},
		"a kind below all":       {Kind: -1},
		"an open":                opens(),
		"a session that can't":   ingest(-2, 1, span(1)),
		"a number that can't be": ingest(2, math.MinInt, span(1)),
	} {
		if audit.Explained(three, log, told(3, c, replies[2])) {
			t.Error(name)
		}
	}
	c := told(3, ingest(2, 1, span(1)), replies[2])
	c.C.Voters = []int{}
	if !audit.Explained(three, log, c) {
		t.Error("an empty list is none")
	}
	if c.Forest = []api.Branch{}; !audit.Explained(three, log, c) {
		t.Error("an empty forest is none")
	}
	if c.Forest = branches(span(1)); audit.Explained(three, log, c) {
		t.Error("with a forest")
	}
}

// P16.2: a command that can't be has no bytes; an entry without any is not its.
func TestExplainedNoCommand(t *testing.T) {
	for _, b := range [][]byte{nil, {}, {9}} {
		log := []api.Entry{{Index: 1, Term: 1, Data: b}}
		for _, c := range []api.Command{{Kind: 9}, ingest(0, 0), votes(), expire(-1)} {
			if audit.Explained(three, log, told(1, c, api.Reply{Err: api.ErrCommand})) {
				t.Error(b, c)
			}
		}
		if !audit.Explained(three, log, looked(1, 1)) || audit.Explained(three, log, looked(2, 1)) {
			t.Error(b)
		}
	}
}

// P16.2: whom a call was of, when it was, and a Trace that is not a look's, are not asked.
func TestExplainedElse(t *testing.T) {
	log, replies := story()
	for _, n := range []int{0, -1, 99, math.MaxInt, math.MinInt} {
		c := api.Call{Client: n, C: opens(), Trace: n, Began: n, Ended: -n, Index: 2, Reply: replies[1]}
		if !audit.Explained(three, log, c) {
			t.Errorf("%+v", c)
		}
		c = api.Call{Client: n, C: api.Command{Session: n, Seq: n, At: n}, Trace: 1, Began: n, Ended: -n, Index: 3, Forest: branches(span(1))}
		if !audit.Explained(three, log, c) {
			t.Errorf("%+v", c)
		}
	}
}

// P16.2: where the voters can't be there are no replies, and a look at nothing shows nothing.
func TestExplainedNoVoters(t *testing.T) {
	log, replies := story()
	for _, voters := range noVoters {
		if !audit.Explained(voters, log, looked(0, 1)) || !audit.Explained(voters, nil, looked(0, 1)) {
			t.Error(voters, "a look at nothing")
		}
		if audit.Explained(voters, log, looked(1, 1)) || audit.Explained(voters, log, looked(0, 1, branches(span(1))...)) || audit.Explained(voters, log, told(2, opens(), replies[1])) || audit.Explained(voters, log, told(0, opens(), api.Reply{})) {
			t.Error(voters)
		}
	}
	if audit.Explained(three, nil, told(1, opens(), api.Reply{Session: 1})) || audit.Explained(three, nil, told(0, opens(), api.Reply{})) || !audit.Explained(three, nil, looked(0, 1)) {
		t.Error("without a log")
	}
}

// P16.2, held against its words on logs and calls drawn at random.
func TestExplainedRandom(t *testing.T) {
	yes, no := 0, 0
	for seed := range int64(400) {
		r := rand.New(rand.NewSource(seed))
		log := drawn(r, r.Intn(30))
		for range 40 {
			c := toldBy(r, log)
			if r.Intn(2) == 0 {
				spoil(r, &c, len(log))
			}
			want := plainExplained(three, log, c)
			if got := audit.Explained(three, log, c); got != want {
				t.Fatalf("%d: %+v: %v", seed, c, got)
			}
			if want {
				yes++
			} else {
				no++
			}
		}
	}
	if yes < 3000 || no < 3000 {
		t.Error(yes, no)
	}
}
