package node_test

import (
	"testing"

	"spandrel/api"
	"spandrel/disk"
	"spandrel/node"
	"spandrel/wire"
)

// P14.2: what raft tells is the answer, and of each entry that is to be done what it came to.
func TestHandle(t *testing.T) {
	d := fresh(t, plenty)
	n := alone(t, d)
	one := func(index int, r api.Reply) api.Done {
		return api.Done{Index: index, Answers: []api.Answer{{Index: index, Term: 1, Reply: r}}}
	}
	answers(t, n, propose(opens()), one(2, isOpen(2)))
	answers(t, n, propose(ingest(2, 1, span(1), span(2))), one(3, added(2)))
	answers(t, n, propose(ingest(2, 1, span(1), span(2))), one(4, added(2)))
	answers(t, n, propose(ingest(2, 3, span(3))), one(5, api.Reply{Err: api.ErrGap}))
	answers(t, n, propose(ingest(9, 1, span(3))), one(6, api.Reply{Err: api.ErrSession}))
	answers(t, n, propose(retain(7)), one(7, ended(0)))
	answers(t, n, propose(retain(8)), one(8, ended(1)))
	answers(t, n, read(-3), api.Done{Reads: []api.Read{{ID: -3, Index: 8}}})
	answers(t, n, tick(), api.Done{})
	feeds := api.Msg{Kind: api.MAppend, To: 3, Term: 1, Commit: 8, Round: 1, Entries: n.View().Entries}
	answers(t, n, other(0, 3), api.Done{Index: 9, Send: []api.Msg{feeds}})
	if l, index := n.Lookup(1); len(l) != 0 || index != 8 {
		t.Error(l, index)
	}
	yes := hear(api.Msg{Kind: api.MAppended, From: 3, Term: 1, Index: 9, Yes: true})
	answers(t, n, yes, api.Done{Answers: []api.Answer{{Index: 9, Term: 1}}})
	is(t, n, does(t, []int{0}, n.View().Entries...))
}

// P14.2: entries that are committed at once are done one behind the other, those that are no command's too.
func TestApply(t *testing.T) {
	n := open(t, fresh(t, plenty), 0, 1)
	l := []api.Entry{entry(1, 1, none()), entry(2, 1, opens()), entry(3, 2, ingest(2, 1, span(1))), entry(4, 2, []byte("no command")), entry(5, 3, votes(0, 1, 2)), entry(6, 3, nil), entry(7, 3, retain(9))}
	answers(t, n, feed(3, 0, 0, 0, l...), api.Done{Send: []api.Msg{has(3, 7)}})
	is(t, n, does(t, []int{0, 1}))
	answers(t, n, feed(3, 2, 1, 6), api.Done{Send: []api.Msg{has(3, 2)}, Answers: []api.Answer{{Index: 1, Term: 1}, {Index: 2, Term: 1, Reply: isOpen(2)}}})
	is(t, n, does(t, []int{0, 1}, l[:2]...))
	bad := api.Reply{Err: api.ErrCommand}
	answers(t, n, feed(3, 7, 3, 6), api.Done{Send: []api.Msg{has(3, 7)}, Answers: []api.Answer{{Index: 3, Term: 2, Reply: added(1)}, {Index: 4, Term: 2, Reply: bad}, {Index: 5, Term: 3}, {Index: 6, Term: 3, Reply: bad}}})
	is(t, n, does(t, []int{0, 1}, l[:6]...))
	answers(t, n, feed(3, 7, 3, 7), api.Done{Send: []api.Msg{has(3, 7)}, Answers: []api.Answer{{Index: 7, Term: 3, Reply: ended(1)}}})
}

// P14.2: an error of raft is the answer; the node goes on, and has what it had.
func TestRefused(t *testing.T) {
	d := fresh(t, plenty)
	n := open(t, d, 0, 1)
	right(t, n.Handle(feed(2, 0, 0, 1, row(1, 1, 2)...)).Err)
	lead := alone(t, fresh(t, plenty))
	right(t, lead.Handle(other(0, 1)).Err)
	for _, x := range []struct {
		n  *node.Node
		in api.Input
		e  api.Errno
	}{
		{n, api.Input{}, api.ErrArg},
		{n, api.Input{Kind: 7, Index: 1, Data: opens()}, api.ErrArg},
		{n, api.Input{Kind: -1}, api.ErrArg},
		{n, propose(opens()), api.ErrLeader},
		{n, propose(nil), api.ErrCommand},
		{n, other(0), api.ErrLeader},
		{n, read(1), api.ErrLeader},
		{n, hear(api.Msg{}), api.ErrMsg},
		{n, hear(api.Msg{Kind: api.MAppend, From: 1, To: 2, Term: 9}), api.ErrMsg},
		{lead, propose(none()), api.ErrCommand},
		{lead, other(0, 1, 2), api.ErrBusy},
	} {
		was, image := x.n.View(), x.n.Image()
		for range 2 {
			answers(t, x.n, x.in, api.Done{Err: x.e})
		}
		sees(t, x.n, was)
		if string(x.n.Image()) != string(image) {
			t.Error(x.in)
		}
	}
	right(t, n.Pack().Err, lead.Pack().Err)
	answers(t, n, pack(), api.Done{Err: api.ErrIndex})
	answers(t, n, feed(2, 2, 2, 2), api.Done{Send: []api.Msg{has(2, 2)}, Answers: []api.Answer{{Index: 2, Term: 2, Reply: ended(0)}}})
	lays(t, d, api.Hard{Term: 2}, 1, 1, row(2, 2)...)
}

// P14.2: ErrFull is raft's, too, where no index is left: the node goes on.
func TestFullOfEntries(t *testing.T) {
	image := wire.Join(wire.Number(nil, most-1), []byte{1, 1, 0, 1, 0, 1, 0})
	d := laid(t, api.Hard{Term: 1}, most-1, 1, nil, api.Snap{Index: most - 1, Term: 1, Voters: []int{0}, Data: image})
	n := open(t, d)
	answers(t, n, tick(), api.Done{Answers: []api.Answer{{Index: most, Term: 2}}})
	for range 2 {
		answers(t, n, propose(opens()), api.Done{Err: api.ErrFull})
		answers(t, n, read(1), api.Done{Reads: []api.Read{{ID: 1, Index: most}}})
	}
	answers(t, n, pack(), api.Done{})
	if s := kept(t, d); s.Index != most {
		t.Error(s)
	}
	answers(t, n, propose(opens()), api.Done{Err: api.ErrFull})
}

// struck is a disk on which the power went at an act of what a node did of an input: of what was pending, all was kept, or nothing.
func struck(t *testing.T, build func() (*disk.Disk, *node.Node), in api.Input, act, keep int) (*disk.Disk, bool) {
	t.Helper()
	d, n := build()
	image := n.Image()
	right(t, d.Arm(act, keep, 0))
	done := n.Handle(in)
	if done.Err == api.OK {
		right(t, d.Arm(0, 0, 0))
		return d, false
	}
	for _, in := range []api.Input{in, tick(), {}, pack(), hear(api.Msg{}), propose(nil)} {
		if told(done) != told(api.Done{Err: api.ErrDown}) {
			t.Fatal(done)
		}
		done = n.Handle(in)
	}
	if string(n.Image()) != string(image) {
		t.Fatal("the state has changed")
	}
	right(t, d.Start())
	return d, true
}

// P14.2: the hard state, what is cut, and entries are kept in this order, each by one act, and synced then.
func TestKeptInOrder(t *testing.T) {
	was, now := api.Hard{Term: 2}, api.Hard{Term: 3}
	build := func() (*disk.Disk, *node.Node) {
		d := fresh(t, plenty)
		n := open(t, d, 0, 1, 2)
		right(t, n.Handle(feed(2, 0, 0, 1, row(1, 1, 1, 2)...)).Err)
		return d, n
	}
	l := row(1, 1, 3, 3)
	in := feed(3, 1, 1, 2, l[1:]...)
	for i, x := range []struct {
		h api.Hard
		l []api.Entry
	}{{now, row(1, 1, 1, 2)}, {now, l[:1]}, {now, l}, {now, l}} {
		d, down := struck(t, build, in, i+1, 99)
		if !down {
			t.Fatal("at", i, "nothing is done")
		}
		lays(t, d, x.h, 0, 0, x.l...)
		d, _ = struck(t, build, in, i+1, 0)
		lays(t, d, was, 0, 0, row(1, 1, 1, 2)...)
	}
	d, down := struck(t, build, in, 5, 0)
	if down || d.Pending() != 0 {
		t.Fatal("five acts")
	}
	right(t, d.Crash(0, 0), d.Start())
	lays(t, d, now, 0, 0, l...)
}

// P14.2: each of the things that are to last is kept without the others, too.
func TestKeptAlone(t *testing.T) {
	vote := hear(api.Msg{Kind: api.MVote, From: 2, Term: 2, Index: 9, LogTerm: 2})
	late := hear(api.Msg{Kind: api.MVoted, From: 2, Term: 3})
	for name, x := range map[string]struct {
		in   api.Input
		acts int
		h    api.Hard
		l    []api.Entry
	}{
		"a vote":           {in: vote, acts: 2, h: api.Hard{Term: 2, Vote: 3}, l: row(1, 1, 1)},
		"a term":           {in: late, acts: 2, h: api.Hard{Term: 3}, l: row(1, 1, 1)},
		"entries":          {in: feed(2, 2, 1, 0, row(3, 2, 2)...), acts: 2, h: api.Hard{Term: 2}, l: row(1, 1, 1, 2, 2)},
		"a cut":            {in: feed(2, 1, 1, 0, row(2, 2)...), acts: 3, h: api.Hard{Term: 2}, l: row(1, 1, 2)},
		"nothing":          {in: feed(2, 2, 1, 0), h: api.Hard{Term: 2}, l: row(1, 1, 1)},
		"a commit":         {in: feed(2, 2, 1, 2), h: api.Hard{Term: 2}, l: row(1, 1, 1)},
		"what is there":    {in: feed(2, 0, 0, 0, row(1, 1, 1)...), h: api.Hard{Term: 2}, l: row(1, 1, 1)},
		"what is refused":  {in: feed(2, 7, 2, 0), h: api.Hard{Term: 2}, l: row(1, 1, 1)},
		"an older message": {in: feed(1, 0, 0, 0), h: api.Hard{Term: 2}, l: row(1, 1, 1)},
	} {
		build := func() (*disk.Disk, *node.Node) {
			d := fresh(t, plenty)
			n := open(t, d, 0, 1, 2)
			right(t, n.Handle(feed(2, 0, 0, 0, row(1, 1, 1)...)).Err)
			return d, n
		}
		for act := 1; act <= x.acts; act++ {
			if _, down := struck(t, build, x.in, act, 0); !down {
				t.Error(name, "has no act", act)
			}
		}
		d, down := struck(t, build, x.in, x.acts+1, 0)
		if down || d.Pending() != 0 {
			t.Error(name, "has more than", x.acts, "acts")
		}
		lays(t, d, x.h, 0, 0, x.l...)
	}
}

// P14.2, P14.6: where nothing is to be kept the disk is left alone, the power off or not; behind the first that is the node stops.
func TestPowerOff(t *testing.T) {
	d := fresh(t, plenty)
	n, e := node.Open(0, d, []int{0, 1}, 9)
	right(t, e, n.Handle(feed(2, 0, 0, 0, row(1, 1)...)).Err, d.Crash(9, 0))
	answers(t, n, tick(), api.Done{})
	answers(t, n, feed(2, 1, 1, 1), api.Done{Send: []api.Msg{has(2, 1)}, Answers: []api.Answer{{Index: 1, Term: 1, Reply: ended(0)}}})
	answers(t, n, propose(opens()), api.Done{Err: api.ErrLeader})
	answers(t, n, feed(2, 1, 1, 1, row(2, 2)...), api.Done{Err: api.ErrDown})
	right(t, d.Start())
	for _, in := range []api.Input{tick(), feed(2, 1, 1, 1), propose(opens()), pack(), {}, feed(2, 1, 1, 1, row(2, 2)...)} {
		answers(t, n, in, api.Done{Err: api.ErrDown})
	}
	is(t, n, does(t, []int{0, 1}, row(1, 1)...))
	lays(t, d, api.Hard{Term: 2}, 0, 0, row(1, 1)...)
}

// P14.2, P14.4: a disk without room stops a node; what was told is there when it is opened again.
func TestNoRoom(t *testing.T) {
	for room := 60; room < 400; room += 7 {
		d := fresh(t, room)
		n := open(t, d, 0)
		done := n.Handle(tick())
		told := 0
		for done.Err == api.OK && told < room {
			told = done.Answers[0].Index
			done = n.Handle(propose(opens()))
		}
		for _, in := range []api.Input{propose(opens()), tick(), read(1), pack(), other(0), {}} {
			answers(t, n, in, api.Done{Err: api.ErrFull})
		}
		answers(t, n, pack(), api.Done{Err: done.Err})
		if _, index := n.Lookup(1); index != told {
			t.Error(room, index, told)
		}
		v := open(t, d, 0).View()
		if len(v.Entries) != told || v.Hard.Term > 1 || told > 0 && v.Hard != (api.Hard{Term: 1, Vote: 1}) {
			t.Error(room, v, told)
		}
	}
}

// P14.2: an IPack has the state's index and image, whatever it is given.
func TestPack(t *testing.T) {
	for i, in := range []api.Input{pack(), {Kind: api.IPack, Index: 1, Data: []byte("another one")}, {Kind: api.IPack, Index: -4, Data: make([]byte, api.MaxImage+1)}, {Kind: api.IPack, Index: most}} {
		d := fresh(t, plenty)
		n := open(t, d, 0, 1)
		l := []api.Entry{entry(1, 1, opens()), entry(2, 2, votes(0, 1, 4)), entry(3, 2, ingest(1, 1, span(5))), entry(4, 2, votes(0, 1)), entry(5, 2, none())}
		answers(t, n, in, api.Done{Err: api.ErrIndex})
		right(t, n.Handle(feed(2, 0, 0, 3, l...)).Err)
		m := does(t, []int{0, 1}, l[:3]...)
		answers(t, n, in, api.Done{})
		answers(t, n, in, api.Done{Err: api.ErrIndex})
		is(t, n, m)
		if s := kept(t, d); s.Index != 3 || s.Term != 2 || len(s.Voters) != 3 || string(s.Data) != string(m.Image()) {
			t.Error(i, s)
		}
		lays(t, d, api.Hard{Term: 2}, 3, 2, l[3:]...)
		v := api.View{Leader: 2, Hard: api.Hard{Term: 2}, Commit: 3, Index: 3, Term: 2, Voters: []int{0, 1}, Entries: l[3:]}
		sees(t, n, v)
		n = open(t, d, 6)
		v.Leader = 0
		sees(t, n, v)
		is(t, n, m)
		right(t, n.Handle(feed(2, 5, 2, 5)).Err, n.Pack().Err)
		lays(t, d, api.Hard{Term: 2}, 5, 2)
	}
}

// P14.2, P14.4, P14.5: wherever the power goes while a state is kept, that one is there behind it or the one ahead, and all entries behind that.
func TestPackStruck(t *testing.T) {
	var l []api.Entry
	for i := range 40 {
		l = append(l, entry(i+1, 1, ingest(1, i, span(i+1), span(i+100), span(i+200))))
	}
	l[0] = entry(1, 1, opens())
	build := func() (*disk.Disk, *node.Node) {
		d := fresh(t, plenty)
		n := open(t, d, 0, 1)
		right(t, n.Handle(feed(1, 0, 0, 8, l[:8]...)).Err, n.Pack().Err)
		for i := 8; i < 40; i += 8 {
			right(t, n.Handle(feed(1, i, 1, min(i+8, 38), l[i:i+8]...)).Err)
		}
		return d, n
	}
	old, now := does(t, []int{0, 1}, l[:8]...), does(t, []int{0, 1}, l[:38]...)
	news := 0
	for act := 1; ; act++ {
		for _, keep := range []int{0, 1, 2, 99} {
			d, down := struck(t, build, pack(), act, keep)
			if !down {
				if news < 10 || act < 10 {
					t.Error("too few acts:", act, news)
				}
				return
			}
			n := open(t, d, 0)
			v := n.View()
			m := old
			if v.Index == 38 {
				m = now
				news++
			} else if news > 3 {
				t.Fatal("the new one was there")
			}
			is(t, n, m)
			sees(t, n, api.View{Hard: api.Hard{Term: 1}, Commit: m.Index(), Index: m.Index(), Term: 1, Voters: []int{0, 1}, Entries: l[m.Index():]})
			right(t, n.Handle(feed(1, 40, 1, 38)).Err)
			is(t, n, now)
		}
	}
}

// DOC.md, Objects: two nodes know nothing of one another.
func TestApart(t *testing.T) {
	d, c := fresh(t, plenty), fresh(t, plenty)
	a, b := alone(t, d), alone(t, c)
	was := b.View()
	right(t, a.Handle(propose(opens())).Err, a.Pack().Err)
	sees(t, b, was)
	is(t, b, does(t, []int{0}, entry(1, 1, none())))
	right(t, d.Crash(0, 0))
	answers(t, a, propose(opens()), api.Done{Err: api.ErrDown})
	answers(t, b, propose(opens()), api.Done{Index: 2, Answers: []api.Answer{{Index: 2, Term: 1, Reply: isOpen(2)}}})
}
