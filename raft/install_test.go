package raft_test

import (
	"slices"
	"testing"

	"spandrel/api"
	"spandrel/raft"
)

// install is an MInstall from node 1 to node 0, in the Term 5: a snapshot's bytes from a place up to another one.
func install(s api.Snap, at, end int) api.Input {
	return hear(api.Msg{
		Kind: api.MInstall, From: 1, Term: 5, Index: s.Index, LogTerm: s.Term, Commit: at, Round: 6, Done: end == len(s.Data), Voters: s.Voters, Data: s.Data[at:end],
	})
}

// part is an answer of who has so many bytes of a snapshot, whole that of who has all.
func part(index, at int) []api.Msg {
	return []api.Msg{{Kind: api.MInstalled, To: 1, Index: index, Commit: at, Round: 6}}
}
func whole(index int) []api.Msg {
	return []api.Msg{{Kind: api.MInstalled, To: 1, Index: index, Round: 6, Done: true}}
}

// follows is node 0 as a follower in the Term 5, with entries behind a base at 3, up to 8, and 5 committed.
func follows(t *testing.T) *raft.Raft {
	r := made(t, 0, api.Hard{Term: 5, Vote: 3}, snap(3, 1, 9, 0, 1, 2), row(4, 2, 2, 3, 3, 4), 9)
	step(t, r, entries(5, 5, 2, 5), api.Output{Apply: row(4, 2, 2), Send: took(5)})
	return r
}

// P12.4: a snapshot that has no more than what was committed is not taken.
func TestInstallOld(t *testing.T) {
	for index := 1; index < 6; index++ {
		r := follows(t)
		was := r.View()
		s := snap(index, 5, 600, 0, 1)
		step(t, r, install(s, 0, 512), api.Output{Send: whole(index)})
		step(t, r, install(s, 0, 0), api.Output{Send: whole(index)})
		step(t, r, install(s, 512, 600), api.Output{Send: whole(index)})
		is(t, r, was)
	}
}

// P12.4: a snapshot whose pieces came is placed; entries behind it stay, if they go on from it.
func TestInstall(t *testing.T) {
	for _, x := range []struct {
		index, term int
		stay        []api.Entry
	}{
		{6, 3, row(7, 3, 4)}, {7, 3, row(8, 4)}, {8, 4, nil}, {6, 2, nil}, {6, 4, nil}, {7, 4, nil}, {8, 5, nil}, {9, 4, nil}, {most, 5, nil},
	} {
		for _, size := range []int{0, 1, 512, 513, 1024, 1300} {
			r := follows(t)
			s := snap(x.index, x.term, size, 0, 1, 4)
			at := 0
			for at+512 < size {
				step(t, r, install(s, at, at+512), api.Output{Send: part(x.index, at+512)})
				at += 512
			}
			is(t, r, api.View{Leader: 2, Hard: api.Hard{Term: 5, Vote: 3}, Commit: 5, Index: 3, Term: 1, Voters: []int{0, 1, 2}, Entries: row(4, 2, 2, 3, 3, 4)})
			step(t, r, install(s, at, size), api.Output{Snap: &s, Send: whole(x.index)})
			v := api.View{Leader: 2, Hard: api.Hard{Term: 5, Vote: 3}, Commit: x.index, Index: x.index, Term: x.term, Voters: s.Voters, Entries: x.stay}
			is(t, r, v)
			// The last piece once more.
			step(t, r, install(s, at, size), api.Output{Send: whole(x.index)})
			is(t, r, v)
		}
	}
}

// P12.4: who has a snapshot goes on from it, and is asked for what it ends with.
func TestInstallGoesOn(t *testing.T) {
	r := follows(t)
	s := snap(9, 4, 5, 0, 1, 4)
	step(t, r, install(s, 0, 5), api.Output{Snap: &s, Send: whole(9)})
	step(t, r, entries(5, 10, 4, 20), api.Output{Send: not(10)})
	step(t, r, entries(5, 9, 5, 20), api.Output{Send: not(10)})
	step(t, r, entries(5, 7, 3, 20, row(8, 4, 4, 5, 5)...), api.Output{Entries: row(10, 5, 5), Apply: row(10, 5, 5), Send: took(11)})
	step(t, r, ask(1, 6, 11, 4), api.Output{Hard: hard(6, 0), Send: voted(1, false)})
	step(t, r, ask(1, 6, 11, 5), api.Output{Hard: hard(6, 2), Send: voted(1, true)})
	for range 8 {
		step(t, r, tick(9), api.Output{})
	}
	step(t, r, tick(9), api.Output{Hard: hard(7, 1), Send: asks(11, 5, 1, 4)})
}

// P12.4: pieces that do not go on are not taken; a piece from the beginning begins anew.
func TestInstallPieces(t *testing.T) {
	r := follows(t)
	s, other, later := snap(8, 4, 1300, 0, 1), snap(8, 5, 1300, 0, 1), snap(9, 4, 700, 1, 2)
	for _, x := range []struct {
		in   api.Input
		send []api.Msg
	}{
		{install(s, 512, 1024), part(8, 0)}, {install(s, 1024, 1300), part(8, 0)},
		{install(s, 0, 512), part(8, 512)}, {install(s, 512, 800), part(8, 800)},
		{install(s, 512, 1024), part(8, 800)}, {install(s, 1024, 1300), part(8, 800)}, {install(s, 799, 1300), part(8, 800)},
		{install(other, 800, 1300), part(8, 0)}, {install(later, 512, 700), part(9, 0)},
		{install(s, 800, 800), part(8, 800)}, {install(s, 800, 900), part(8, 900)},
		{install(other, 0, 100), part(8, 100)}, {install(s, 900, 1300), part(8, 0)},
		{install(later, 0, 512), part(9, 512)}, {install(other, 100, 200), part(8, 0)},
		{install(s, 0, 512), part(8, 512)}, {install(s, 0, 512), part(8, 512)}, {install(s, 512, 1024), part(8, 1024)},
		{install(s, 0, 200), part(8, 200)}, {install(s, 200, 712), part(8, 712)}, {install(s, 712, 1024), part(8, 1024)},
	} {
		step(t, r, x.in, api.Output{Send: x.send})
	}
	// Another one who leads later may go on.
	in := install(s, 1024, 1300)
	in.Msg.From, in.Msg.Term = 2, 6
	send := whole(8)
	send[0].To = 2
	step(t, r, in, api.Output{Hard: hard(6, 0), Snap: &s, Send: send})
	is(t, r, api.View{Leader: 3, Hard: api.Hard{Term: 6}, Commit: 8, Index: 8, Term: 4, Voters: []int{0, 1}})
	in = install(later, 512, 700)
	in.Msg.Term = 6
	step(t, r, in, api.Output{Send: part(9, 0)})
}

// P12.4: more bytes than a state may have are not taken.
func TestInstallLong(t *testing.T) {
	r := follows(t)
	s := snap(8, 4, api.MaxImage+512, 0, 1)
	for at := 0; at < api.MaxImage; at += 512 {
		step(t, r, install(s, at, at+512), api.Output{Send: part(8, at+512)})
	}
	step(t, r, install(s, api.MaxImage, api.MaxImage+512), api.Output{Send: part(8, api.MaxImage)})
	s.Data = s.Data[:api.MaxImage]
	step(t, r, install(s, api.MaxImage, api.MaxImage), api.Output{Snap: &s, Send: whole(8)})
}

// P12.4, P12.1: the voters are the snapshot's, unless entries that stay behind it tell others.
func TestInstallVoters(t *testing.T) {
	l := with(with(with(nil, 1, 2, votes(0, 1)), 2, 2, votes(0, 1, 5)), 3, 2, open())
	for _, x := range []struct {
		index, term int
		ahead       []api.Entry
		voters      []int
	}{
		{1, 2, l, []int{0, 1, 5}}, {1, 2, l[:2], []int{0, 1, 5}}, {1, 2, l[:1], []int{0, 6}}, {2, 2, l, []int{0, 6}}, {3, 2, l, []int{0, 6}},
		{1, 1, l, []int{0, 6}}, {1, 1, l[:2], []int{0, 6}}, {2, 1, l, []int{0, 6}}, {4, 2, l, []int{0, 6}},
	} {
		r := made(t, 0, api.Hard{Term: 5}, first(0, 1, 2), x.ahead, 1)
		s := snap(x.index, x.term, 4, 0, 6)
		step(t, r, install(s, 0, 4), api.Output{Snap: &s, Send: whole(x.index)})
		if v := r.View(); !slices.Equal(v.Voters, x.voters) {
			t.Fatal(x.index, x.term, v.Voters)
		}
		step(t, r, tick(1), api.Output{Hard: hard(6, 1), Send: asks(r.View().Index+len(r.View().Entries), x.term, x.voters[1:]...)})
		// It sends the snapshot on, when it leads, with the voters that this has.
		r.Step(yes(5, 6))
		r.Step(yes(6, 6))
		r.Step(yes(1, 6))
		role(t, r, api.Leader, 6, 1)
		o := r.Step(hear(api.Msg{Kind: api.MAppended, From: 6, Term: 6, Index: 1}))
		if len(o.Send) != 1 || o.Send[0].Kind != api.MInstall || !slices.Equal(o.Send[0].Voters, []int{0, 6}) || o.Send[0].Index != x.index || o.Send[0].LogTerm != x.term {
			t.Fatal(told(o))
		}
	}
}
