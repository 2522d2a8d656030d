package raft_test

import (
	"slices"
	"testing"

	"spandrel/api"
)

// lacks is a message by which a node tells node 0, in the Term 3, that entries do not fit, and from where on to send.
func lacks(from, index, round int) api.Input {
	return hear(api.Msg{Kind: api.MAppended, From: from, Term: 3, Index: index, Round: round})
}

// got is one by which it tells how much of a snapshot it has, all one by which it tells that it has all.
func got(from, index, at, round int) api.Input {
	return hear(api.Msg{Kind: api.MInstalled, From: from, Term: 3, Index: index, Commit: at, Round: round})
}
func all(from, index, round int) api.Input {
	return hear(api.Msg{Kind: api.MInstalled, From: from, Term: 3, Index: index, Round: round, Done: true})
}

// twelve is entries of the Term 2 from 4 to 12, and the own one of who leads behind them.
func twelve() []api.Entry {
	return with(row(4, slices.Repeat([]int{2}, 9)...), 13, 3, none())
}

// more is an MAppend to a node, of those of twelve that stand from an index on: at most 8.
func more(to, from, commit, round int) []api.Msg {
	l := twelve()[from-4:]
	m := api.Msg{Kind: api.MAppend, To: to, Index: from - 1, LogTerm: 2, Commit: commit, Round: round, Entries: l[:min(8, len(l))]}
	if from == 14 {
		m.LogTerm = 3
	}
	return []api.Msg{m}
}

// P12.4: entries that do not fit are sent from further ahead, but behind those that are known to be there.
func TestLacks(t *testing.T) {
	for _, x := range []struct{ index, next int }{{20, 12}, {most, 12}, {13, 12}, {12, 12}, {11, 11}, {5, 5}, {4, 4}} {
		r := leader(t, snap(3, 2, 600, 0, 1, 2), 12)
		step(t, r, lacks(1, x.index, 0), api.Output{Send: more(1, x.next, 3, 0)})
		next := max(4, x.next-1)
		if x.next > 4 {
			step(t, r, lacks(1, 99, 0), api.Output{Send: more(1, next, 3, 0)})
		}
		step(t, r, has(1, 8, 0), api.Output{Send: more(1, max(9, next), 3, 0)})
		step(t, r, lacks(1, x.index, 0), api.Output{Send: more(1, max(9, min(x.index, max(9, next)-1)), 3, 0)})
		step(t, r, lacks(1, 0, 0), api.Output{Send: more(1, 9, 3, 0)})
	}
	// Behind the base's beginning the snapshot is sent.
	for _, index := range []int{0, 1, 3} {
		r := leader(t, snap(3, 2, 600, 0, 1, 2), 12)
		m := api.Msg{Kind: api.MInstall, To: 1, Index: 3, LogTerm: 2, Voters: []int{0, 1, 2}, Data: data(600)[:512]}
		step(t, r, lacks(1, index, 0), api.Output{Send: []api.Msg{m}})
		step(t, r, lacks(1, 0, 0), api.Output{Send: []api.Msg{m}})
	}
}

// P12.4: whoever tells a leader that it has more is fed, be it no voter; who tells of what is not there is not heard.
func TestHas(t *testing.T) {
	r := leader(t, snap(3, 2, 600, 0, 1, 2), 12)
	r.Step(lacks(1, 4, 0))
	for _, x := range []struct {
		in   api.Input
		send []api.Msg
	}{
		{has(1, 0, 0), nil}, {has(1, 14, 0), nil}, {has(1, most, 0), nil},
		{has(1, 2, 0), more(1, 4, 3, 0)},
		{has(1, 6, 0), more(1, 7, 3, 0)}, {has(1, 6, 0), nil}, {has(1, 3, 0), nil},
		{has(1, 7, 0), more(1, 8, 3, 0)},
		{has(5, 5, 0), more(5, 13, 3, 0)}, {lacks(5, 2, 0), more(5, 6, 3, 0)}, {has(5, 13, 0), nil}, {has(6, 13, 0), nil},
		{lacks(1, 99, 0), more(1, 8, 3, 0)},
		{lacks(6, 99, 0), more(6, 14, 3, 0)},
	} {
		step(t, r, x.in, api.Output{Send: x.send})
	}
	step(t, r, has(1, 13, 0), api.Output{Apply: twelve()})
	for _, r := range roles(t)[:2] {
		was := r.View()
		for _, in := range []api.Input{has(1, 3, 0), lacks(1, 3, 0), all(1, 3, 0), got(1, 3, 5, 0), got(1, 0, 0, 0)} {
			step(t, r, in, api.Output{})
			is(t, r, was)
		}
	}
}

// P12.3: entries ahead of the leader's own are committed by those alone, and by a majority of the voters.
func TestAgree(t *testing.T) {
	r := leader(t, snap(3, 2, 600, 0, 1, 2, 3, 4), 12)
	for n := range 5 {
		if n > 0 {
			step(t, r, has(n, 12, 0), api.Output{Send: more(n, 13, 3, 0)})
		}
	}
	step(t, r, has(4, 13, 0), api.Output{})
	step(t, r, has(6, 13, 0), api.Output{})
	step(t, r, has(4, 13, 0), api.Output{})
	step(t, r, has(2, 13, 0), api.Output{Apply: twelve()})
	step(t, r, has(1, 13, 0), api.Output{})
	for i, to := range []int{1, 2} {
		r.Step(api.Input{Kind: api.IPropose, Data: open()})
		r.Step(api.Input{Kind: api.IPropose, Data: retain(to)})
		e := []api.Entry{{Index: 14 + 2*i, Term: 3, Data: open()}, {Index: 15 + 2*i, Term: 3, Data: retain(to)}}
		r.Step(has(1, 15+2*i, 0))
		step(t, r, has(2, 14+2*i, 0), api.Output{Apply: e[:1], Send: []api.Msg{{Kind: api.MAppend, To: 2, Index: 14 + 2*i, LogTerm: 3, Commit: 14 + 2*i, Entries: e[1:]}}})
		step(t, r, has(3, 15+2*i, 0), api.Output{Apply: e[1:]})
	}
}

// piece is an MInstall to a node of a snapshot's piece from a place on.
func piece(to int, s api.Snap, at, round int) []api.Msg {
	end := min(at+512, len(s.Data))
	return []api.Msg{{
		Kind: api.MInstall, To: to, Index: s.Index, LogTerm: s.Term, Commit: at, Round: round, Done: end == len(s.Data), Voters: s.Voters, Data: s.Data[at:end],
	}}
}

// P12.3: a snapshot is sent in pieces of 512 bytes, the last one perhaps smaller; one without data in one piece.
func TestPieces(t *testing.T) {
	for _, size := range []int{0, 1, 511, 512, 513, 1023, 1024, 1025, 5000} {
		s := snap(3, 2, size, 0, 1, 2)
		r := leader(t, s, 12)
		step(t, r, lacks(1, 3, 0), api.Output{Send: piece(1, s, 0, 0)})
		at := 0
		for at+512 < size {
			at += 512
			step(t, r, got(1, 3, at, 0), api.Output{Send: piece(1, s, at, 0)})
			step(t, r, got(1, 3, at, 0), api.Output{})
		}
		step(t, r, tick(1), api.Output{Send: append(piece(1, s, at, 0), more(2, 13, 3, 0)...)})
		step(t, r, all(1, 3, 0), api.Output{Send: more(1, 4, 3, 0)})
	}
}

// P12.4: how much of a snapshot a node has is what it told last, if that may be.
func TestGot(t *testing.T) {
	s := snap(3, 2, 1300, 0, 1, 2)
	r := leader(t, s, 12)
	r.Step(lacks(1, 1, 0))
	for _, x := range []struct {
		in   api.Input
		send []api.Msg
	}{
		{got(1, 3, 0, 0), nil}, {got(1, 3, 512, 0), piece(1, s, 512, 0)}, {got(1, 3, 700, 0), piece(1, s, 700, 0)},
		{got(1, 3, 1300, 0), piece(1, s, 1300, 0)}, {got(1, 3, 512, 0), nil}, {tick(1), append(piece(1, s, 512, 0), more(2, 13, 3, 0)...)},
		{got(1, 3, 1301, 0), nil}, {got(1, 3, most, 0), nil}, {got(1, 2, 600, 0), nil}, {got(1, 4, 600, 0), nil}, {got(1, 0, 600, 0), nil},
		{tick(1), append(piece(1, s, 512, 0), more(2, 13, 3, 0)...)},
		{got(1, 3, 513, 0), piece(1, s, 513, 0)}, {got(1, 3, 0, 0), nil}, {got(1, 3, 2, 0), piece(1, s, 2, 0)},
		{got(5, 3, 3, 0), more(5, 13, 3, 0)}, {got(2, 3, 3, 0), more(2, 13, 3, 0)},
		// Whoever has all is fed, whatever it lacks; of entries that are not there nothing is heard.
		{all(1, 14, 0), nil}, {got(1, 14, 0, 0), nil}, {all(1, 2, 0), piece(1, s, 2, 0)}, {all(1, 3, 0), more(1, 4, 3, 0)}, {all(1, 3, 0), more(1, 4, 3, 0)},
		{all(1, 1, 0), more(1, 4, 3, 0)}, {all(1, 7, 0), more(1, 8, 3, 0)}, {all(5, 13, 0), more(5, 14, 3, 0)},
	} {
		step(t, r, x.in, api.Output{Send: x.send})
	}
	step(t, r, all(2, 13, 0), api.Output{Apply: twelve(), Send: more(2, 14, 13, 0)})
	// A snapshot of Index 0 has no bytes, whatever it was made of.
	r = leader(t, snap(0, 0, 600, 0, 1, 2), 0)
	step(t, r, got(1, 0, 0, 0), api.Output{})
	step(t, r, got(1, 0, 5, 0), api.Output{})
}

// P12.4: an answer to a piece answers the round too; what is not heard does not.
func TestGotRounds(t *testing.T) {
	s := snap(3, 2, 1300, 0, 1, 2)
	for _, x := range []struct {
		in    api.Input
		heard bool // that it answered the round
		now   bool // and that is looked at now
		send  []api.Msg
	}{
		{got(1, 3, 0, 1), true, true, nil}, {got(1, 3, 5, most), true, true, piece(1, s, 5, 1)}, {got(1, 3, 0, 0), false, false, nil},
		{all(1, 3, 1), true, true, more(1, 4, 13, 1)}, {all(1, 3, 0), false, false, more(1, 4, 13, 1)},
		{got(1, 2, 0, 1), true, false, nil}, {got(1, 3, 1301, 1), true, false, nil},
		{got(1, 14, 0, 1), false, false, nil}, {all(1, 14, 1), false, false, nil}, {has(1, 14, 1), false, false, nil},
		{lacks(1, 99, 1), true, false, piece(1, s, 0, 1)}, {has(1, 0, 1), true, true, nil},
	} {
		r := leader(t, s, 12)
		r.Step(lacks(1, 1, 0))
		r.Step(has(2, 13, 0))
		r.Step(api.Input{Kind: api.IRead, ID: 7})
		read := []api.Read{{ID: 7, Index: 13}}
		o := api.Output{Send: x.send}
		if x.now {
			o.Reads = read
		}
		step(t, r, x.in, o)
		o = api.Output{}
		if x.heard && !x.now {
			o.Reads = read
		}
		step(t, r, has(2, 13, 0), o)
	}
}

// P12.3: of a snapshot that was placed anew nobody has anything, nor of that of who begins to lead.
func TestPackAgain(t *testing.T) {
	s := snap(3, 2, 1300, 0, 1, 2)
	r := leader(t, s, 12)
	r.Step(lacks(1, 1, 0))
	step(t, r, got(1, 3, 1024, 0), api.Output{Send: piece(1, s, 1024, 0)})
	r.Step(has(2, 13, 0))
	s = snap(8, 2, 1400, 0, 1, 2)
	step(t, r, api.Input{Kind: api.IPack, Index: 8, Data: data(1400)}, api.Output{Snap: &s})
	step(t, r, tick(1), api.Output{Send: append(piece(1, s, 0, 0), more(2, 14, 13, 0)...)})
	step(t, r, got(1, 3, 1024, 0), api.Output{})
	step(t, r, got(1, 8, 512, 0), api.Output{Send: piece(1, s, 512, 0)})
	// Who has what the older one had needs the newer one.
	step(t, r, all(1, 3, 0), api.Output{Send: piece(1, s, 512, 0)})
	step(t, r, all(1, 8, 0), api.Output{Send: more(1, 9, 13, 0)})

	s = snap(3, 2, 1300, 0, 1, 2)
	r = leader(t, s, 12)
	r.Step(lacks(1, 1, 0))
	r.Step(got(1, 3, 1024, 0))
	r.Step(hear(api.Msg{Kind: api.MVoted, From: 1, Term: 4}))
	r.Step(tick(1))
	for r.View().Role == api.Follower {
		r.Step(tick(1))
	}
	r.Step(yes(1, 5))
	step(t, r, hear(api.Msg{Kind: api.MAppended, From: 1, Term: 5, Index: 1}), api.Output{Send: piece(1, s, 0, 0)})
}

// P12.9: of what it knew as a leader nothing is left to one who leads again.
func TestLeadAgain(t *testing.T) {
	r := leader(t, snap(3, 2, 600, 0, 1, 2), 12)
	r.Step(has(1, 13, 0))
	r.Step(lacks(2, 5, 0))
	r.Step(hear(api.Msg{Kind: api.MVoted, From: 1, Term: 4}))
	for r.View().Role == api.Follower {
		r.Step(tick(1))
	}
	e := api.Entry{Index: 14, Term: 5, Data: none()}
	step(t, r, yes(1, 5), api.Output{Entries: []api.Entry{e}, Send: feeds(api.Msg{Kind: api.MAppend, Index: 13, LogTerm: 3, Commit: 13, Entries: []api.Entry{e}}, 1, 2)})
	refused(t, r, api.Input{Kind: api.IRead}, api.ErrBusy)
	// That node 1 had all up to 13 is not known any more.
	step(t, r, hear(api.Msg{Kind: api.MAppended, From: 1, Term: 5, Index: 12}), api.Output{Send: []api.Msg{
		{Kind: api.MAppend, To: 1, Index: 11, LogTerm: 2, Commit: 13, Entries: append(slices.Clone(twelve()[8:]), e)},
	}})
	step(t, r, hear(api.Msg{Kind: api.MAppended, From: 2, Term: 5, Index: 14, Yes: true}), api.Output{Apply: []api.Entry{e}})
}
