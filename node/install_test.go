package node_test

import (
	"bytes"
	"fmt"
	"slices"
	"testing"

	"spandrel/api"
	"spandrel/disk"
	"spandrel/machine"
	"spandrel/node"
)

// big is entries up to an index, of one term, and the machine of voters that has done them: its image has several pieces.
func big(t *testing.T, term, index int, voters ...int) ([]api.Entry, *machine.Machine) {
	t.Helper()
	l := []api.Entry{entry(1, term, opens())}
	for i := 2; i <= index; i++ {
		l = append(l, entry(i, term, ingest(1, i-1, span(i), span(i+100), span(i+200), span(i+300))))
	}
	return l, does(t, voters, l...)
}

// pieces is node 1, which leads in a term, handing node 0 a snapshot over.
func pieces(term int, s api.Snap) []api.Input {
	var l []api.Input
	at := 0
	for piece := range slices.Chunk(s.Data, api.Chunk) {
		l = append(l, hear(api.Msg{
			Kind: api.MInstall, From: 1, Term: term, Index: s.Index, LogTerm: s.Term, Commit: at, Round: 3, Done: at+len(piece) == len(s.Data), Voters: s.Voters, Data: piece,
		}))
		at += len(piece)
	}
	return l
}

// install hands a snapshot over, up to the last piece: that one's answer.
func install(t *testing.T, n *node.Node, term int, s api.Snap) api.Done {
	t.Helper()
	l := pieces(term, s)
	last := len(l) - 1
	for i, in := range l[:last] {
		answers(t, n, in, api.Done{Send: []api.Msg{{Kind: api.MInstalled, To: 1, Term: term, Index: s.Index, Commit: 512 * (i + 1), Round: 3}}})
	}
	return n.Handle(l[last])
}

// installed is the answer to a snapshot's last piece, if it is the node's then.
func installed(term int, s api.Snap) api.Done {
	return api.Done{Send: []api.Msg{{Kind: api.MInstalled, To: 1, Term: term, Index: s.Index, Round: 3, Done: true}}}
}

// P14.2: a snapshot that came by a message is the state, whatever was there; the entries behind it are done to it.
func TestInstall(t *testing.T) {
	_, m := big(t, 2, 12, 0, 1, 5)
	s := snapOf(m)
	if len(s.Data) < 2*api.Chunk {
		t.Fatal("it has too few bytes:", len(s.Data))
	}
	for name, x := range map[string]struct {
		ahead []api.Input
		stay  []api.Entry
	}{
		"of nothing":                {nil, nil},
		"of a few entries":          {[]api.Input{feed(2, 0, 0, 3, row(1, 1, 1, 1, 1)...)}, nil},
		"of a snapshot":             {[]api.Input{feed(2, 0, 0, 3, row(1, 1, 1, 1, 1)...), pack()}, nil},
		"of further entries":        {[]api.Input{feed(2, 0, 0, 3, row(1, 1, 1, 1, 1, 2, 2, 2, 2)...), feed(2, 8, 2, 3, row(9, 2, 2, 2, 2, 2, 2)...)}, row(13, 2, 2)},
		"of further entries, other": {[]api.Input{feed(2, 0, 0, 3, row(1, 1, 1, 1, 1, 1, 1, 1, 1)...), feed(2, 8, 1, 3, row(9, 1, 1, 1, 1, 1, 1)...)}, nil},
	} {
		t.Run(name, func(t *testing.T) {
			d := fresh(t, plenty)
			n := open(t, d, 0, 1)
			for _, in := range x.ahead {
				right(t, n.Handle(in).Err)
			}
			if done := install(t, n, 3, s); told(done) != told(installed(3, s)) || d.Pending() != 0 {
				t.Fatal(done)
			}
			is(t, n, m)
			v := api.View{Leader: 2, Hard: api.Hard{Term: 3}, Commit: 12, Index: 12, Term: 2, Voters: []int{0, 1, 5}, Entries: x.stay}
			sees(t, n, v)
			lays(t, d, api.Hard{Term: 3}, 12, 2, x.stay...)
			if k := kept(t, d); fmt.Sprint(k) != fmt.Sprint(s) {
				t.Error(k)
			}
			again := open(t, d.Clone(), 0)
			v.Leader = 0
			sees(t, again, v)
			is(t, again, m)
			answers(t, n, feed(3, 12, 2, 13, entry(13, 3, ingest(1, 11, span(13)))), api.Done{Send: []api.Msg{has(3, 13)}, Answers: []api.Answer{{Index: 13, Term: 3, Reply: added(4)}}})
			answers(t, n, feed(3, 13, 3, 14, entry(14, 3, ingest(1, 12, span(14)))), api.Done{Send: []api.Msg{has(3, 14)}, Answers: []api.Answer{{Index: 14, Term: 3, Reply: added(1)}}})
		})
	}
}

// P14.2: a snapshot that is behind commit changes nothing.
func TestInstallOld(t *testing.T) {
	l, m := big(t, 2, 4, 0, 1)
	d := fresh(t, plenty)
	n := open(t, d, 0, 1)
	right(t, n.Handle(feed(3, 0, 0, 4, l...)).Err)
	s := snapOf(does(t, []int{0, 1}, l[:3]...))
	answers(t, n, pieces(3, s)[0], installed(3, s))
	is(t, n, m)
	if k := kept(t, d); k.Index != 0 {
		t.Error(k)
	}
	lays(t, d, api.Hard{Term: 3}, 0, 0, l...)
}

// bad is snapshots that are not what their messages say.
func bad(s api.Snap, other []byte) map[string]api.Snap {
	l := map[string]api.Snap{}
	add := func(name string, change func(s *api.Snap)) {
		x := s
		change(&x)
		l[name] = x
	}
	add("no image", func(s *api.Snap) { s.Data = []byte("no image") })
	add("an image and more", func(s *api.Snap) { s.Data = append(bytes.Clone(s.Data), 0) })
	add("another machine's", func(s *api.Snap) { s.Data = other })
	add("another index", func(s *api.Snap) { s.Index++ })
	add("another term", func(s *api.Snap) { s.Term++ })
	add("more voters", func(s *api.Snap) { s.Voters = []int{0, 1, 2, 3} })
	add("fewer voters", func(s *api.Snap) { s.Voters = []int{0, 1} })
	add("other voters", func(s *api.Snap) { s.Voters = []int{0, 1, 3} })
	return l
}

// P14.2, P14.6: a snapshot that is not what its message says stops the node; nothing is told, and its state stays. It is kept nevertheless, so that no node of that disk begins with it.
func TestInstallBad(t *testing.T) {
	_, m := big(t, 2, 9, 0, 1, 2)
	_, less := big(t, 2, 8, 0, 1, 2)
	for name, s := range bad(snapOf(m), less.Image()) {
		d := fresh(t, plenty)
		n := open(t, d, 0, 1)
		right(t, n.Handle(feed(1, 0, 0, 3, row(1, 1, 1, 1, 1)...)).Err)
		if done := install(t, n, 3, s); told(done) != told(api.Done{Err: api.ErrStore}) {
			t.Fatal(name, done)
		}
		if k := kept(t, d); fmt.Sprint(k) != fmt.Sprint(s) || d.Pending() != 0 {
			t.Error(name, k)
		}
		right(t, d.Crash(0, 0))
		for _, in := range []api.Input{tick(), pieces(3, s)[0], feed(3, 4, 1, 4), propose(opens()), pack(), {}} {
			answers(t, n, in, api.Done{Err: api.ErrStore})
		}
		is(t, n, does(t, []int{0, 1}, row(1, 1, 1, 1)...))
		right(t, d.Start())
		if x, e := node.Open(0, d, []int{0, 1}, 1); x != nil || e != api.ErrStore {
			t.Error(name, e)
		}
	}
}

// P14.2: an error of the disk comes ahead of that.
func TestInstallBadStruck(t *testing.T) {
	_, m := big(t, 2, 9, 0, 1)
	s := snapOf(m)
	s.Index++
	for act := 1; ; act++ {
		d := fresh(t, plenty)
		n := open(t, d, 0, 1)
		l := pieces(3, s)
		for _, in := range l[:len(l)-1] {
			right(t, n.Handle(in).Err)
		}
		right(t, d.Arm(act, 0, 0))
		done := n.Handle(l[len(l)-1])
		answers(t, n, tick(), api.Done{Err: done.Err})
		if told(done) == told(api.Done{Err: api.ErrStore}) {
			// At least a write of each piece, the head's, three syncs, a move, and a write of the log.
			if act < len(l)+7 {
				t.Error("too few acts:", act)
			}
			return
		}
		if told(done) != told(api.Done{Err: api.ErrDown}) {
			t.Fatal(done)
		}
	}
}

// P14.4: wherever the power goes while a snapshot comes, what was told is there: the entries that it has, or the snapshot.
func TestInstallStruck(t *testing.T) {
	_, m := big(t, 2, 12, 0, 1)
	s := snapOf(m)
	l := row(1, 1, 1, 1, 2)
	build := func() (*disk.Disk, *node.Node) {
		d := fresh(t, plenty)
		n := open(t, d, 0, 1)
		right(t, n.Handle(feed(3, 0, 0, 3, l...)).Err)
		for _, in := range pieces(3, s)[:len(s.Data)/api.Chunk] {
			right(t, n.Handle(in).Err)
		}
		return d, n
	}
	last := pieces(3, s)[len(s.Data)/api.Chunk]
	for act := 1; ; act++ {
		for _, keep := range []int{0, 1, 2, 99} {
			d, down := struck(t, build, last, act, keep)
			n := open(t, d, 0, 1)
			v := n.View()
			switch {
			case v.Index == 12:
				is(t, n, m)
				sees(t, n, api.View{Hard: api.Hard{Term: 3}, Commit: 12, Index: 12, Term: 2, Voters: []int{0, 1}})
			case down:
				sees(t, n, api.View{Hard: api.Hard{Term: 3}, Voters: []int{0, 1}, Entries: l})
			default:
				t.Fatal(v)
			}
			if !down {
				return
			}
		}
	}
}

// roomy is an input with room behind its lists, in which something stands.
func roomy(in api.Input) api.Input {
	room := func(b []byte) []byte { return append(bytes.Clone(b), 91, 92)[:len(b)] }
	in.Data, in.Voters = room(in.Data), append(slices.Clone(in.Voters), 91)[:len(in.Voters)]
	m := &in.Msg
	m.Data, m.Voters = room(m.Data), append(slices.Clone(m.Voters), 91)[:len(m.Voters)]
	var l []api.Entry
	for _, e := range m.Entries {
		e.Data = room(e.Data)
		l = append(l, e)
	}
	m.Entries = append(l, api.Entry{Index: 91, Data: []byte{91}})[:len(l)]
	return in
}

// spoil writes over all lists of a message, and spoilDone over those of an answer, the room behind their ends included.
func spoil(m api.Msg) {
	for _, e := range m.Entries[:cap(m.Entries)] {
		clear(e.Data[:cap(e.Data)])
	}
	clear(m.Entries[:cap(m.Entries)])
	clear(m.Voters[:cap(m.Voters)])
	clear(m.Data[:cap(m.Data)])
}

func spoilDone(d api.Done) {
	for _, m := range d.Send[:cap(d.Send)] {
		spoil(m)
	}
	clear(d.Send[:cap(d.Send)])
	clear(d.Answers[:cap(d.Answers)])
	clear(d.Reads[:cap(d.Reads)])
}

// whole is an input, with what stands behind its lists' ends, as a text.
func whole(in api.Input) string {
	m := in.Msg
	text := fmt.Sprint(in, in.Data[:cap(in.Data)], in.Voters[:cap(in.Voters)], m.Data[:cap(m.Data)], m.Voters[:cap(m.Voters)], m.Entries[:cap(m.Entries)])
	for _, e := range m.Entries {
		text += fmt.Sprint(e.Data[:cap(e.Data)])
	}
	return text
}

// DOC.md, Memory: what is handed in is neither changed nor kept, and answers are new.
func TestMemory(t *testing.T) {
	_, m := big(t, 2, 12, 0, 1)
	ins := []api.Input{feed(2, 0, 0, 2, row(1, 1, 1, 1)...)}
	ins = append(ins, pieces(3, snapOf(m))...)
	ins = append(ins, feed(3, 12, 2, 14, entry(13, 3, opens()), entry(14, 3, ingest(13, 1, span(9)))), pack(), tick(), hear(api.Msg{Kind: api.MVoted, From: 1, Term: 4, Yes: true}),
		propose(opens()), other(0, 1, 2), read(5), hear(api.Msg{Kind: api.MAppended, From: 1, Term: 4, Index: 16, Yes: true}), read(6), hear(api.Msg{Kind: api.MAppended, From: 1, Term: 4, Index: 16, Round: 1, Yes: true}), other(0, 1, 2), pack())
	voters := []int{0, 1, 91, 92}
	d := fresh(t, plenty)
	a, b := open(t, d, voters[:2]...), open(t, fresh(t, plenty), 0, 1)
	if voters[2] != 91 {
		t.Error(voters)
	}
	clear(voters)
	for i, in := range ins {
		given := roomy(in)
		was := whole(given)
		done := a.Handle(given)
		if whole(given) != was {
			t.Fatal(i, "has changed")
		}
		answers(t, b, in, done)
		spoil(given.Msg)
		clear(given.Data[:cap(given.Data)])
		clear(given.Voters[:cap(given.Voters)])
		spoilDone(done)
		sees(t, a, b.View())
		v, image := a.View(), a.Image()
		l, _ := a.Lookup(1)
		spoil(api.Msg{Entries: v.Entries, Voters: v.Voters, Data: image})
		clear(l[:cap(l)])
		sees(t, a, b.View())
		if !bytes.Equal(a.Image(), b.Image()) {
			t.Fatal(i, "the states differ")
		}
	}
	v := b.View()
	if v.Role != api.Leader || v.Commit < 16 {
		t.Fatal("it does not lead", v)
	}
	again := open(t, d, 0)
	sees(t, again, api.View{Hard: v.Hard, Commit: v.Index, Index: v.Index, Term: v.Term, Voters: []int{0, 1, 2}, Entries: v.Entries})
}
