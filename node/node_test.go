package node_test

import (
	"bytes"
	"fmt"
	"math"
	"slices"
	"testing"

	"spandrel/api"
	"spandrel/disk"
	"spandrel/machine"
	"spandrel/node"
	"spandrel/vault"
	"spandrel/wal"
)

// most is the greatest index and the greatest term.
const most = 1 << 40

// plenty is room for all that the tests keep.
const plenty = 1 << 20

// right fails unless there is no error.
func right(t *testing.T, l ...api.Errno) {
	t.Helper()
	for i, e := range l {
		if e != api.OK {
			t.Fatal(i, e)
		}
	}
}

// fresh is an empty disk of some room.
func fresh(t *testing.T, room int) *disk.Disk {
	t.Helper()
	d, e := disk.New(room)
	right(t, e)
	return d
}

// open is the node 0 of a disk, with some voters; its timeout is 1.
func open(t *testing.T, d *disk.Disk, voters ...int) *node.Node {
	t.Helper()
	n, e := node.Open(0, d, voters, 1)
	right(t, e)
	return n
}

// alone is one that leads, its own only voter, on an empty disk: entry 1 is committed.
func alone(t *testing.T, d *disk.Disk) *node.Node {
	t.Helper()
	n := open(t, d, 0)
	answers(t, n, tick(), api.Done{Answers: []api.Answer{{Index: 1, Term: 1}}})
	return n
}

// put is a command's bytes.
func put(c api.Command) []byte {
	b, _ := machine.Put(c)
	return b
}

// Bytes of commands.
func none() []byte          { return put(api.Command{}) }
func opens() []byte         { return put(api.Command{Kind: api.COpen}) }
func retain(at int) []byte  { return put(api.Command{Kind: api.CRetain, At: at}) }
func votes(l ...int) []byte { return put(api.Command{Kind: api.CRoster, Voters: l}) }
func ingest(session, seq int, l ...api.Span) []byte {
	return put(api.Command{Kind: api.CIngest, Session: session, Seq: seq, Spans: l})
}

// span is one of trace 1.
func span(id int) api.Span {
	return api.Span{Trace: 1, ID: id, Start: id, End: id + 5, Name: "a-piece-of-work-with-a-name"}
}

// Replies.
func added(n int) api.Reply  { return api.Reply{Counts: api.Counts{Added: n}} }
func ended(n int) api.Reply  { return api.Reply{Gone: n} }
func isOpen(n int) api.Reply { return api.Reply{Session: n} }

// Inputs.
func tick() api.Input            { return api.Input{Kind: api.ITick, Timeout: 1} }
func propose(b []byte) api.Input { return api.Input{Kind: api.IPropose, Data: b} }
func hear(m api.Msg) api.Input   { return api.Input{Kind: api.IMsg, Msg: m} }
func read(id int) api.Input      { return api.Input{Kind: api.IRead, ID: id} }
func pack() api.Input            { return api.Input{Kind: api.IPack} }
func other(l ...int) api.Input   { return api.Input{Kind: api.IRoster, Voters: l} }

// entry is one of some bytes.
func entry(index, term int, b []byte) api.Entry { return api.Entry{Index: index, Term: term, Data: b} }

// feed is node 1, which leads in a term, telling node 0 entries that stand behind an index of a term.
func feed(term, index, logTerm, commit int, l ...api.Entry) api.Input {
	return hear(api.Msg{Kind: api.MAppend, From: 1, Term: term, Index: index, LogTerm: logTerm, Commit: commit, Entries: l})
}

// has is what node 0 answers to that, if it has all up to an index.
func has(term, index int) api.Msg {
	return api.Msg{Kind: api.MAppended, To: 1, Term: term, Index: index, Yes: true}
}

// does is the machine of some voters that has done entries.
func does(t *testing.T, voters []int, l ...api.Entry) *machine.Machine {
	t.Helper()
	m, e := machine.New(voters...)
	right(t, e)
	for _, x := range l {
		_, e := m.Apply(x)
		right(t, e)
	}
	return m
}

// snapOf is the snapshot of a machine.
func snapOf(m *machine.Machine) api.Snap {
	return api.Snap{Index: m.Index(), Term: m.Term(), Voters: m.Voters(), Data: m.Image()}
}

// told is an answer as a text.
func told(d api.Done) string { return fmt.Sprintf("%+v", d) }

// answers fails unless a node answers just that.
func answers(t *testing.T, n *node.Node, in api.Input, want api.Done) {
	t.Helper()
	if d := n.Handle(in); told(d) != told(want) {
		t.Fatalf("%+v\nnot %+v", d, want)
	}
}

// is fails unless a node has the state of a machine.
func is(t *testing.T, n *node.Node, m *machine.Machine) {
	t.Helper()
	if !bytes.Equal(n.Image(), m.Image()) {
		t.Fatalf("% x\nnot % x", n.Image(), m.Image())
	}
	for _, trace := range append(m.Traces(), 0, -1, 77) {
		if l, index := n.Lookup(trace); index != m.Index() || !slices.Equal(l, m.Lookup(trace)) {
			t.Fatal(trace, l, index)
		}
	}
}

// sees fails unless a node tells that of itself.
func sees(t *testing.T, n *node.Node, want api.View) {
	t.Helper()
	if v := n.View(); fmt.Sprintf("%+v", v) != fmt.Sprintf("%+v", want) {
		t.Fatalf("%+v\nnot %+v", v, want)
	}
}

// logged is what a disk has of a log, and kept of a vault. Both look at another disk with the same.
func logged(t *testing.T, d *disk.Disk) *wal.Log {
	t.Helper()
	l, e := wal.Open(d.Clone())
	right(t, e)
	return l
}

func kept(t *testing.T, d *disk.Disk) api.Snap {
	t.Helper()
	v, e := vault.Open(d.Clone())
	right(t, e)
	s, _ := v.Last()
	return s
}

// lays fails unless a disk has just that hard state, base and entries.
func lays(t *testing.T, d *disk.Disk, h api.Hard, index, term int, l ...api.Entry) {
	t.Helper()
	log := logged(t, d)
	i, at := log.Base()
	if log.Hard() != h || i != index || at != term || fmt.Sprint(log.Entries()) != fmt.Sprint(l) {
		t.Fatal(log.Hard(), i, at, log.Entries(), "not", h, index, term, l)
	}
}

// The chapter's example.
func TestExample(t *testing.T) {
	d := fresh(t, plenty)
	n := open(t, d, 0)
	answers(t, n, tick(), api.Done{Answers: []api.Answer{{Index: 1, Term: 1}}})
	answers(t, n, propose(opens()), api.Done{Index: 2, Answers: []api.Answer{{Index: 2, Term: 1, Reply: isOpen(2)}}})
	if done := n.Pack(); told(done) != told(api.Done{}) {
		t.Fatal(done)
	}
	image := n.Image()
	n = open(t, d, 0)
	if v := n.View(); v.Index != 2 || !bytes.Equal(n.Image(), image) {
		t.Error(v)
	}
}

// P14.1: a node of an empty disk has nothing but its voters, and writes nothing.
func TestOpenEmpty(t *testing.T) {
	for id := range 7 {
		for _, voters := range [][]int{{0}, {6}, {1, 3, 5}, {0, 1, 2, 3, 4, 5, 6}} {
			d := fresh(t, 0)
			n, e := node.Open(id, d, voters, 3)
			right(t, e)
			sees(t, n, api.View{ID: id, Voters: voters})
			is(t, n, does(t, voters))
			if l := d.List(); len(l) != 0 {
				t.Error(l)
			}
		}
	}
}

// P14.1: the timeout is raft's: brought into 1 to 1000.
func TestOpenTimeout(t *testing.T) {
	for timeout, wait := range map[int]int{math.MinInt: 1, 0: 1, 1: 1, 3: 3, 1000: 1000, math.MaxInt: 1000} {
		n, e := node.Open(0, fresh(t, plenty), []int{0}, timeout)
		right(t, e)
		for range wait - 1 {
			answers(t, n, tick(), api.Done{})
		}
		answers(t, n, tick(), api.Done{Answers: []api.Answer{{Index: 1, Term: 1}}})
	}
}

// laid is a disk with a log and a vault: of no Index: without a snapshot.
func laid(t *testing.T, h api.Hard, index, term int, l []api.Entry, s api.Snap) *disk.Disk {
	t.Helper()
	d := fresh(t, plenty)
	log, e := wal.Open(d)
	right(t, e)
	if index != 0 || term != 0 {
		right(t, log.Rebase(index, term))
	}
	right(t, log.Put(h), log.Append(l...), log.Sync())
	if s.Index != 0 {
		v, e := vault.Open(d)
		right(t, e, v.Save(s))
	}
	return d
}

// row is entries from an index on, of those terms.
func row(index int, terms ...int) []api.Entry {
	var l []api.Entry
	for i, term := range terms {
		l = append(l, entry(index+i, term, retain(index+i)))
	}
	return l
}

// P14.1: the first of several errors.
func TestOpenErrors(t *testing.T) {
	good := snapOf(does(t, []int{0, 2}, row(1, 1, 1, 2)...))
	with := func(change func(s *api.Snap)) api.Snap {
		s := good
		change(&s)
		return s
	}
	noStore := with(func(s *api.Snap) { s.Data = []byte("none") })
	hard, low := api.Hard{Term: 4}, api.Hard{Term: 1}
	for name, x := range map[string]struct {
		d      *disk.Disk
		id     int
		voters []int
		want   api.Errno
	}{
		"no disk":                        {nil, 0, []int{0}, api.ErrNil},
		"no disk, and all else":          {&disk.Disk{}, -1, nil, api.ErrNil},
		"no image":                       {laid(t, hard, 0, 0, nil, noStore), 0, []int{0}, api.ErrStore},
		"no image, and all behind":       {laid(t, low, 9, 2, row(10, 3), noStore), 7, nil, api.ErrStore},
		"without data":                   {laid(t, hard, 0, 0, nil, with(func(s *api.Snap) { s.Data = nil })), 0, []int{0}, api.ErrStore},
		"of another index":               {laid(t, hard, 0, 0, nil, with(func(s *api.Snap) { s.Index = 4 })), 0, []int{0}, api.ErrStore},
		"of another term":                {laid(t, hard, 0, 0, nil, with(func(s *api.Snap) { s.Term = 1 })), 0, []int{0}, api.ErrStore},
		"of other voters":                {laid(t, hard, 0, 0, nil, with(func(s *api.Snap) { s.Voters = []int{0, 1} })), 0, []int{0, 1}, api.ErrStore},
		"of fewer voters":                {laid(t, hard, 0, 0, nil, with(func(s *api.Snap) { s.Voters = []int{0} })), 0, []int{0}, api.ErrStore},
		"nobody votes":                   {fresh(t, plenty), 0, nil, api.ErrArg},
		"nobody may vote":                {fresh(t, plenty), 0, []int{1, 0}, api.ErrArg},
		"nobody votes, and a base":       {laid(t, low, 9, 2, nil, api.Snap{}), 0, []int{7}, api.ErrArg},
		"a base without a snapshot":      {laid(t, hard, 1, 1, nil, api.Snap{}), 0, []int{0}, api.ErrWal},
		"a base above":                   {laid(t, hard, 4, 2, nil, good), 0, []int{0}, api.ErrWal},
		"a base above, and no node":      {laid(t, low, 4, 2, row(5, 3), good), 7, nil, api.ErrWal},
		"no node":                        {fresh(t, plenty), 7, []int{0}, api.ErrArg},
		"a node below":                   {fresh(t, plenty), -1, []int{0}, api.ErrArg},
		"a snapshot's no node":           {laid(t, hard, 3, 2, nil, good), math.MaxInt, []int{0}, api.ErrArg},
		"an entry above the term":        {laid(t, low, 0, 0, row(1, 1, 2), api.Snap{}), 0, []int{0}, api.ErrArg},
		"a snapshot above the term":      {laid(t, low, 3, 2, nil, good), 0, []int{0}, api.ErrArg},
		"terms that fall":                {laid(t, hard, 0, 0, row(1, 2, 1), api.Snap{}), 0, []int{0}, api.ErrLedger},
		"terms that fall and stand high": {laid(t, low, 3, 2, row(4, 1), good), 0, []int{0}, api.ErrLedger},
	} {
		if n, e := node.Open(x.id, x.d, x.voters, 1); n != nil || e != x.want {
			t.Error(name, e, "not", x.want)
		}
	}
}

// P14.1: a snapshot's voters are the first ones, whatever voters are named then; its state is the node's, committed up to it.
func TestOpenSnapshot(t *testing.T) {
	m := does(t, []int{0}, entry(1, 1, none()), entry(2, 1, opens()), entry(3, 2, votes(0, 4)), entry(4, 2, ingest(2, 1, span(7))))
	l := append(row(5, 3), entry(6, 3, votes(0, 4, 5)))
	for _, voters := range [][]int{{0}, {0, 1, 2}, nil, {9, 9}} {
		d := laid(t, api.Hard{Term: 3, Vote: 5}, 4, 2, l, snapOf(m))
		n := open(t, d, voters...)
		sees(t, n, api.View{Hard: api.Hard{Term: 3, Vote: 5}, Commit: 4, Index: 4, Term: 2, Voters: []int{0, 4, 5}, Entries: l})
		is(t, n, m)
		lays(t, d, api.Hard{Term: 3, Vote: 5}, 4, 2, l...)
	}
}

// P14.1: a log whose base is another one goes on from the snapshot: the entries behind it stay, if they follow it.
func TestOpenRebases(t *testing.T) {
	hard := api.Hard{Term: 4, Vote: 1}
	s := snapOf(does(t, []int{0, 1}, row(1, 1, 1, 2)...))
	for name, x := range map[string]struct {
		index, term int
		l           []api.Entry
		stay        []api.Entry
	}{
		"behind":                   {0, 0, row(1, 1, 1, 2, 2, 3), row(4, 2, 3)},
		"behind, of another term":  {0, 0, row(1, 1, 1, 3, 3), nil},
		"behind, without all":      {0, 0, row(1, 1, 1), nil},
		"behind, just as far":      {1, 1, row(2, 1, 2), nil},
		"a base of the term":       {3, 2, row(4, 2, 4), row(4, 2, 4)},
		"a base of another term":   {3, 3, row(4, 3, 4), nil},
		"a base without anything":  {0, 0, nil, nil},
		"a base one behind":        {2, 1, row(3, 2, 4), row(4, 4)},
		"a base of a term, no row": {3, 2, nil, nil},
	} {
		t.Run(name, func(t *testing.T) {
			d := laid(t, hard, x.index, x.term, x.l, s)
			n := open(t, d, 0)
			sees(t, n, api.View{Hard: hard, Commit: 3, Index: 3, Term: 2, Voters: []int{0, 1}, Entries: x.stay})
			lays(t, d, hard, 3, 2, x.stay...)
			answers(t, n, feed(5, 3, 2, 4, entry(4, 5, opens())), api.Done{Send: []api.Msg{has(5, 4)}, Answers: []api.Answer{{Index: 4, Term: 5, Reply: isOpen(4)}}})
			lays(t, d, api.Hard{Term: 5}, 3, 2, entry(4, 5, opens()))
		})
	}
	// Of a base that can't be a node's own the snapshot's stands as well.
	d := laid(t, hard, 0, 3, row(1, 3), api.Snap{})
	n := open(t, d, 0)
	sees(t, n, api.View{Hard: hard, Voters: []int{0}})
	lays(t, d, hard, 0, 0)
}

// P14.1: wherever the disk fails, Open answers that, and Open behind it has all.
func TestOpenStruck(t *testing.T) {
	s := snapOf(does(t, []int{0, 1}, row(1, 1, 1, 2)...))
	hard := api.Hard{Term: 4, Vote: 1}
	d := laid(t, hard, 0, 0, row(1, 1, 1, 2, 2, 3), s)
	right(t, d.Write("snap.new", 0, []byte("half")), d.Write("wal.000000000007", 0, []byte("half")), d.Sync())
	for n := 1; ; n++ {
		c := d.Clone()
		right(t, c.Arm(n, n, n))
		x, e := node.Open(0, c, []int{0}, 1)
		if e == api.OK {
			if n < 8 {
				t.Error("too few acts:", n)
			}
			break
		}
		if e != api.ErrDown || x != nil {
			t.Fatal(n, e)
		}
		if x, e := node.Open(0, c, []int{0}, 1); e != api.ErrDown || x != nil {
			t.Fatal(n, e)
		}
		right(t, c.Start())
		// The log is opened ahead of the vault.
		if half, e := c.Read("snap.new"); n == 1 && (len(half) != 4 || slices.Contains(c.List(), "wal.000000000007")) {
			t.Error(e, c.List())
		}
		sees(t, open(t, c, 0), api.View{Hard: hard, Commit: 3, Index: 3, Term: 2, Voters: []int{0, 1}, Entries: row(4, 2, 3)})
	}
	// There is no room for a log that begins anew.
	c := fresh(t, d.Used()+9)
	for _, name := range d.List() {
		b, _ := d.Read(name)
		right(t, c.Write(name, 0, b))
	}
	right(t, c.Sync())
	if x, e := node.Open(0, c, []int{0}, 1); e != api.ErrFull || x != nil {
		t.Error(e)
	}
}

// P14.1, P14.5: a node that is opened again has all entries, and comes to the same state when they are committed again; it did none of them yet.
func TestOpenAgain(t *testing.T) {
	d := fresh(t, plenty)
	n := alone(t, d)
	for i := range 5 {
		right(t, n.Handle(propose(opens())).Err, n.Handle(propose(retain(i))).Err)
		v := n.View()
		is(t, n, does(t, []int{0}, v.Entries...))
		n = open(t, d, 0)
		sees(t, n, api.View{Hard: v.Hard, Voters: []int{0}, Entries: v.Entries})
		is(t, n, does(t, []int{0}))
		if done := n.Handle(tick()); done.Err != api.OK || len(done.Answers) != len(v.Entries)+1 {
			t.Fatal(done)
		}
		is(t, n, does(t, []int{0}, append(v.Entries, entry(len(v.Entries)+1, v.Hard.Term+1, none()))...))
	}
}

// P14.3; DOC.md, Objects: nodes that Open did not make.
func TestNoNode(t *testing.T) {
	for _, n := range []*node.Node{nil, {}} {
		for _, in := range []api.Input{{}, tick(), pack(), propose(opens()), read(1), other(0), feed(1, 0, 0, 0), {Kind: 99}} {
			answers(t, n, in, api.Done{Err: api.ErrNil})
		}
		if d := n.Pack(); told(d) != told(api.Done{Err: api.ErrNil}) {
			t.Error(d)
		}
		if l, index := n.Lookup(1); l != nil || index != 0 || n.Image() != nil {
			t.Error(l, index)
		}
		sees(t, n, api.View{})
	}
}
