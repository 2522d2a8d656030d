package raft_test

import (
	"slices"
	"strconv"
	"testing"

	"spandrel/api"
	"spandrel/raft"
)

// to0 is an input of a message to node 0: of each kind one that may be, from node 1, of a term.
func to0(kind, term int) api.Input {
	m := some()[kind]
	m.From, m.To, m.Term = 1, 0, term
	return hear(m)
}

// roles is node 0 in each role, in the Term 3, with entries of the Term 2 at 4 and 5; none of them has anything committed behind 3.
func roles(t *testing.T) []*raft.Raft {
	s := snap(3, 2, 600, 0, 1, 2)
	follower := made(t, 0, api.Hard{Term: 3}, s, row(4, 2, 2), 900)
	candidate := made(t, 0, api.Hard{Term: 2}, s, row(4, 2, 2), 1)
	candidate.Step(tick(900))
	return []*raft.Raft{follower, candidate, leader(t, s, 5)}
}

// P12.3: messages that may not be, or are to another node.
func TestMsgRefused(t *testing.T) {
	for _, r := range roles(t) {
		for kind := range 8 {
			for _, term := range []int{1, 3, 9} {
				m := some()[kind%7]
				m.Kind, m.From, m.To, m.Term = kind, 1, 2, term
				refused(t, r, hear(m), api.ErrMsg)
				m.From, m.To = 0, 1
				refused(t, r, hear(m), api.ErrMsg)
				m.From, m.To = 0, 0
				refused(t, r, hear(m), api.ErrMsg)
				m.From, m.To, m.Index = 1, 0, -1
				refused(t, r, hear(m), api.ErrMsg)
				m.Index, m.Term = 7, 0
				refused(t, r, hear(m), api.ErrMsg)
			}
		}
	}
}

// P12.4: whoever asks for something in a term that is over is told so; nothing else is done.
func TestLate(t *testing.T) {
	answers := []int{0, api.MVoted, 0, api.MAppended, 0, api.MAppended, 0}
	for kind, answer := range answers {
		for _, r := range roles(t) {
			if kind == 0 {
				continue
			}
			for term := 1; term < 3; term++ {
				was := r.View()
				var o api.Output
				if answer != 0 {
					o.Send = []api.Msg{{Kind: answer, To: 1}}
				}
				in := to0(kind, term)
				in.Msg.LogTerm = min(in.Msg.LogTerm, term)
				in.Msg.Entries = nil
				in.Msg.Yes = true
				step(t, r, in, o)
				is(t, r, was)
			}
		}
	}
	// Time goes on: who heard of the past waits no longer for that.
	r := made(t, 0, api.Hard{Term: 3}, first(0, 1), nil, 2)
	r.Step(tick(5))
	r.Step(to0(api.MAppend, 3))
	r.Step(tick(5))
	for _, kind := range []int{api.MVote, api.MInstall, api.MAppend} {
		in := to0(kind, 2)
		in.Msg.Entries = nil
		r.Step(in)
	}
	step(t, r, tick(5), api.Output{Hard: hard(4, 1), Send: asks(0, 0, 1)})
}

// P12.4: a message of a higher Term makes a follower of everyone, who voted for nobody, and knows nobody who leads; its ticks stay.
func TestHigher(t *testing.T) {
	for _, kind := range []int{api.MVoted, api.MAppended, api.MInstalled} {
		for _, r := range roles(t) {
			was := r.View()
			for _, term := range []int{4, 7, most} {
				in := to0(kind, term)
				in.Msg.Index = 3
				step(t, r, in, api.Output{Hard: hard(term, 0)})
				is(t, r, api.View{Hard: api.Hard{Term: term}, Commit: 3, Index: 3, Term: 2, Voters: []int{0, 1, 2}, Entries: was.Entries})
			}
		}
	}
	r := made(t, 0, api.Hard{Term: 3}, first(0, 1), nil, 3)
	r.Step(hear(api.Msg{Kind: api.MAppend, From: 1, Term: 3}))
	if r.View().Leader != 2 {
		t.Fatal(r.View())
	}
	r.Step(tick(5))
	r.Step(tick(5))
	step(t, r, to0(api.MVoted, 4), api.Output{Hard: hard(4, 0)})
	is(t, r, api.View{Hard: api.Hard{Term: 4}, Voters: []int{0, 1}})
	step(t, r, tick(5), api.Output{Hard: hard(5, 1), Send: asks(0, 0, 1)})
	// Votes of a term that is over are forgotten, though the node asks again.
	r = made(t, 0, api.Hard{}, first(0, 1, 2, 3, 4), nil, 1)
	r.Step(tick(1))
	r.Step(yes(1, 1))
	r.Step(to0(api.MAppended, 2))
	r.Step(tick(1))
	step(t, r, yes(2, 3), api.Output{})
	role(t, r, api.Candidate, 3, 1)
}

// ask is an MVote to node 0.
func ask(from, term, index, logTerm int) api.Input {
	return hear(api.Msg{Kind: api.MVote, From: from, Term: term, Index: index, LogTerm: logTerm, Commit: 7, Round: 7})
}

// voted is an answer to who asked for a vote.
func voted(to int, yes bool) []api.Msg {
	return []api.Msg{{Kind: api.MVoted, To: to, Yes: yes}}
}

// P12.4: a vote is for one whose log is not behind, and for no other one in that Term; asked again, it is the same.
func TestVote(t *testing.T) {
	for _, x := range []struct {
		index, term int
		yes         bool
	}{
		{5, 2, true}, {6, 2, true}, {most, 2, true}, {4, 2, false}, {0, 2, false}, {0, 0, false}, {most, 1, false}, {5, 1, false}, {1, 3, true}, {0, most, true}, {5, 3, true},
	} {
		for vote := range 8 {
			r := made(t, 0, api.Hard{Term: 3, Vote: vote}, snap(3, 2, 9, 0, 1, 2), row(4, 2, 2), 9)
			o := api.Output{Send: voted(1, x.yes && (vote == 0 || vote == 2))}
			if vote == 0 && x.yes {
				o.Hard = hard(3, 2)
			}
			step(t, r, ask(1, 3, x.index, x.term), o)
			o.Hard = nil
			step(t, r, ask(1, 3, x.index, x.term), o)
		}
	}
	// Who is no follower has voted itself.
	for _, r := range roles(t)[1:] {
		was := r.View()
		step(t, r, ask(1, 3, 9, 3), api.Output{Send: voted(1, false)})
		is(t, r, was)
	}
}

// P12.4, P12.7: in each Term one vote, for whoever asks first, be it no voter.
func TestVoteOnce(t *testing.T) {
	for _, r := range roles(t) {
		step(t, r, ask(6, 4, 0, 0), api.Output{Hard: hard(4, 0), Send: voted(6, false)})
		step(t, r, ask(5, 4, 9, 3), api.Output{Hard: hard(4, 6), Send: voted(5, true)})
		step(t, r, ask(6, 4, 9, 3), api.Output{Send: voted(6, false)})
		step(t, r, ask(1, 4, 9, 3), api.Output{Send: voted(1, false)})
		step(t, r, ask(5, 4, 9, 3), api.Output{Send: voted(5, true)})
		step(t, r, ask(1, 9, 9, 3), api.Output{Hard: hard(9, 2), Send: voted(1, true)})
		step(t, r, ask(5, 4, 9, 3), api.Output{Send: voted(5, false)})
		step(t, r, ask(5, 9, 9, 3), api.Output{Send: voted(5, false)})
		role(t, r, api.Follower, 9, 2)
	}
}

// P12.4: who votes waits anew; who refuses does not; who leads stays known.
func TestVoteTicks(t *testing.T) {
	r := made(t, 0, api.Hard{Term: 3}, snap(3, 2, 9, 0, 1, 2), row(4, 2, 2), 3)
	r.Step(hear(api.Msg{Kind: api.MAppend, From: 2, Term: 3}))
	for range 3 {
		r.Step(tick(3))
		r.Step(tick(3))
		step(t, r, ask(1, 3, 9, 1), api.Output{Send: voted(1, false)})
		o := api.Output{Send: voted(1, true)}
		if r.View().Hard.Vote == 0 {
			o.Hard = hard(3, 2)
		}
		step(t, r, ask(1, 3, 9, 2), o)
		if v := r.View(); v.Leader != 3 || v.Role != api.Follower {
			t.Fatal(v)
		}
	}
	r.Step(tick(3))
	r.Step(tick(3))
	r.Step(ask(2, 3, 9, 2))
	r.Step(ask(1, 3, 9, 1))
	step(t, r, tick(3), api.Output{Hard: hard(4, 1), Send: asks(5, 2, 1, 2)})
}

// entries is an MAppend from node 1 to node 0.
func entries(term, index, logTerm, commit int, l ...api.Entry) api.Input {
	return hear(api.Msg{Kind: api.MAppend, From: 1, Term: term, Index: index, LogTerm: logTerm, Commit: commit, Round: 6, Entries: l})
}

// took is an answer to entries that were taken, up to an index; not that to others, with an index from which on to send.
func took(match int) []api.Msg {
	return []api.Msg{{Kind: api.MAppended, To: 1, Index: match, Round: 6, Yes: true}}
}
func not(hint int) []api.Msg {
	return []api.Msg{{Kind: api.MAppended, To: 1, Index: hint, Round: 6}}
}

// P12.4: what entries come to: what goes, what is added, what is committed, what is answered.
func TestAppend(t *testing.T) {
	at := func(index, term int) []api.Entry { return row(index, term) }
	l := row(4, 2, 2, 3, 3)
	for i, x := range []struct {
		in     api.Input
		cut    int
		more   []api.Entry
		commit int // of 5 ahead of it
		send   []api.Msg
	}{
		{entries(5, 7, 3, 0), 0, nil, 5, took(7)},
		{entries(5, 7, 3, 0, at(8, 5)...), 0, at(8, 5), 5, took(8)},
		{entries(5, 7, 3, 8, row(8, 3, 4, 5)...), 0, row(8, 3, 4, 5), 8, took(10)},
		{entries(5, 7, 3, most, row(8, 3, 4, 5)...), 0, row(8, 3, 4, 5), 10, took(10)},
		{entries(5, 7, 3, 7), 0, nil, 7, took(7)},
		{entries(5, 7, 3, 9), 0, nil, 7, took(7)},
		// Of what stands behind those that it names nothing is known.
		{entries(5, 4, 2, 7), 0, nil, 5, took(4)},
		{entries(5, 5, 2, 7, at(6, 3)...), 0, nil, 6, took(6)},
		{entries(5, 3, 1, 7, l...), 0, nil, 7, took(7)},
		{entries(5, 0, 0, 4), 0, nil, 5, took(0)},
		{entries(5, 2, 1, 4), 0, nil, 5, took(2)},
		{entries(5, 1, 1, 7, append(row(2, 1, 1), l...)...), 0, nil, 7, took(7)},
		{entries(5, 1, 1, 7, append(row(2, 1, 1), row(4, 2, 2, 3, 3, 5)...)...), 0, at(8, 5), 7, took(8)},
		{entries(5, 2, 1, 9, at(3, 1)...), 0, nil, 5, took(3)},
		// Others stand here.
		{entries(5, 6, 3, 6, at(7, 4)...), 7, at(7, 4), 6, took(7)},
		{entries(5, 5, 2, 5, row(6, 4, 5)...), 6, row(6, 4, 5), 5, took(7)},
		{entries(5, 5, 2, 9, row(6, 2, 2, 2, 2)...), 6, row(6, 2, 2, 2, 2), 9, took(9)},
		{entries(5, 3, 1, 9, row(4, 2, 2, 3, 5)...), 7, at(7, 5), 7, took(7)},
		// What was committed is not touched.
		{entries(5, 4, 2, 9, at(5, 3)...), 0, nil, 5, not(4)},
		{entries(5, 3, 1, 9, at(4, 3)...), 0, nil, 5, not(4)},
		{entries(5, 2, 1, 9, row(3, 1, 5)...), 0, nil, 5, not(4)},
		// They do not go on from what is here.
		{entries(5, 8, 3, 9), 0, nil, 5, not(8)},
		{entries(5, most, 3, 9), 0, nil, 5, not(8)},
		{entries(5, 9, 5, 9, at(10, 5)...), 0, nil, 5, not(8)},
		{entries(5, 7, 4, 9, at(8, 5)...), 0, nil, 5, not(6)},
		{entries(5, 7, 2, 9), 0, nil, 5, not(6)},
		{entries(5, 6, 2, 9), 0, nil, 5, not(6)},
		{entries(5, 5, 3, 9), 0, nil, 5, not(4)},
		{entries(5, 3, 2, 9), 0, nil, 5, not(4)},
		{entries(5, 3, 5, 9, at(4, 5)...), 0, nil, 5, not(4)},
	} {
		t.Run(strconv.Itoa(i), func(t *testing.T) {
			r := made(t, 0, api.Hard{Term: 5, Vote: 3}, snap(3, 1, 9, 0, 1, 2), l, 9)
			step(t, r, entries(5, 5, 2, 5), api.Output{Apply: l[:2], Send: took(5)})
			now := slices.Clone(l)
			if x.cut > 0 {
				now = now[:x.cut-4]
			}
			now = append(now, x.more...)
			step(t, r, x.in, api.Output{Cut: x.cut, Entries: x.more, Apply: now[2 : x.commit-3], Send: x.send})
			is(t, r, api.View{Leader: 2, Hard: api.Hard{Term: 5, Vote: 3}, Commit: x.commit, Index: 3, Term: 1, Voters: []int{0, 1, 2}, Entries: now})
			// The same again brings nothing.
			step(t, r, x.in, api.Output{Send: x.send})
		})
	}
}

// P12.4: without entries; behind a base an entry of a lower term does not stand.
func TestAppendBase(t *testing.T) {
	r := made(t, 0, api.Hard{Term: 5}, snap(3, 3, 9, 0, 1, 2), nil, 9)
	step(t, r, entries(5, 2, 1, 9, row(3, 2, 2)...), api.Output{Send: not(4)})
	step(t, r, entries(5, 2, 1, 9, row(3, 2, 3)...), api.Output{Entries: row(4, 3), Apply: row(4, 3), Send: took(4)})
	r = made(t, 0, api.Hard{Term: 5}, first(0, 1, 2), nil, 9)
	step(t, r, entries(5, 1, 1, 1), api.Output{Send: not(1)})
	step(t, r, entries(5, 0, 0, 1), api.Output{Send: took(0)})
	l := row(1, 1, 1, 1, 1, 1, 1, 1, 5)
	step(t, r, entries(5, 0, 0, 0, l...), api.Output{Entries: l, Send: took(8)})
	step(t, r, entries(5, 8, 5, 8), api.Output{Apply: l, Send: took(8)})
}

// P12.4: whoever does not lead follows who sends entries, or a snapshot, whatever comes of them, and waits anew; who leads does nothing.
func TestHeed(t *testing.T) {
	for _, in := range []api.Input{entries(3, 5, 2, 0), entries(3, 9, 3, 0), to0(api.MInstall, 3)} {
		for _, r := range roles(t) {
			was := r.View()
			o := r.Step(in)
			v := r.View()
			if was.Role == api.Leader {
				if told(o) != told(api.Output{}) {
					t.Fatal(told(o))
				}
				is(t, r, was)
				continue
			}
			if v.Role != api.Follower || v.Leader != 2 || v.Hard != was.Hard || len(o.Send) != 1 || o.Hard != nil {
				t.Fatal(v, told(o))
			}
			step(t, r, yes(1, 3), api.Output{})
			step(t, r, yes(2, 3), api.Output{})
			role(t, r, api.Follower, 3, was.Hard.Vote)
		}
		r := made(t, 0, api.Hard{Term: 3}, snap(3, 2, 9, 0, 1), row(4, 2, 2), 3)
		for range 3 {
			r.Step(tick(3))
			r.Step(tick(3))
			r.Step(in)
			role(t, r, api.Follower, 3, 0)
		}
		r.Step(tick(3))
		r.Step(tick(3))
		r.Step(tick(3))
		role(t, r, api.Candidate, 4, 1)
		// In a later Term a leader follows, too.
		for _, r := range roles(t) {
			later := in
			later.Msg.Term = 4
			o := r.Step(later)
			if v := r.View(); v.Leader != 2 || v.Role != api.Follower || v.Hard != (api.Hard{Term: 4}) || o.Hard == nil || *o.Hard != v.Hard {
				t.Fatal(v, told(o))
			}
		}
	}
}

// P12.4, P12.1: voters come and go with the entries that say so.
func TestAppendVoters(t *testing.T) {
	r := made(t, 0, api.Hard{Term: 5}, first(0, 1, 2), nil, 9)
	change := func(index, term int, l ...int) api.Entry {
		return api.Entry{Index: index, Term: term, Data: votes(l...)}
	}
	for _, x := range []struct {
		in     api.Input
		voters []int
	}{
		{entries(5, 0, 0, 0, row(1, 1)...), []int{0, 1, 2}},
		{entries(5, 1, 1, 0, change(2, 2, 0, 1), row(3, 2)[0], change(4, 2, 1)), []int{1}},
		{entries(5, 3, 2, 0, change(4, 3, 0, 1, 6), row(5, 3)[0]), []int{0, 1, 6}},
		{entries(5, 4, 3, 0, row(5, 5)...), []int{0, 1, 6}},
		{entries(5, 3, 2, 0, row(4, 5)...), []int{0, 1}},
		{entries(5, 1, 1, 0, row(2, 5)...), []int{0, 1, 2}},
		{entries(5, 0, 0, 0, change(1, 5, 3)), []int{3}},
	} {
		r.Step(x.in)
		if v := r.View(); !slices.Equal(v.Voters, x.voters) {
			t.Fatal(v.Voters, "not", x.voters)
		}
	}
}
