package raft_test

import (
	"math"
	"slices"
	"testing"

	"spandrel/api"
	"spandrel/raft"
)

// yes is a message that votes for node 0 in a term.
func yes(from, term int) api.Input {
	return hear(api.Msg{Kind: api.MVoted, From: from, Term: term, Yes: true})
}

// asks is an MVote to each of some.
func asks(index, term int, to ...int) []api.Msg {
	var l []api.Msg
	for _, n := range to {
		l = append(l, api.Msg{Kind: api.MVote, To: n, Index: index, LogTerm: term})
	}
	return l
}

// feeds is the same message to each of some.
func feeds(m api.Msg, to ...int) []api.Msg {
	var l []api.Msg
	for _, n := range to {
		m.To = n
		l = append(l, m)
	}
	return l
}

// role fails unless a node has that role, Term and Vote.
func role(t *testing.T, r *raft.Raft, right, term, vote int) {
	t.Helper()
	if v := r.View(); v.Role != right || v.Hard != (api.Hard{Term: term, Vote: vote}) {
		t.Fatal(v.Role, v.Hard, "not", right, term, vote)
	}
}

// P12.3: who stands asks all other voters, rising, with what its log ends with, and knows nobody who leads.
func TestStand(t *testing.T) {
	r := made(t, 2, api.Hard{Term: 4, Vote: 7}, snap(3, 2, 9, 0, 2, 5, 6), row(4, 2, 4), 2)
	step(t, r, tick(9), api.Output{})
	step(t, r, hear(api.Msg{Kind: api.MAppend, From: 6, To: 2, Term: 4, Index: 5, LogTerm: 4}), api.Output{Send: []api.Msg{{Kind: api.MAppended, To: 6, Index: 5, Yes: true}}})
	step(t, r, tick(9), api.Output{})
	is(t, r, api.View{ID: 2, Leader: 7, Hard: api.Hard{Term: 4, Vote: 7}, Commit: 3, Index: 3, Term: 2, Voters: []int{0, 2, 5, 6}, Entries: row(4, 2, 4)})
	step(t, r, tick(3), api.Output{Hard: hard(5, 3), Send: asks(5, 4, 0, 5, 6)})
	is(t, r, api.View{ID: 2, Role: api.Candidate, Hard: api.Hard{Term: 5, Vote: 3}, Commit: 3, Index: 3, Term: 2, Voters: []int{0, 2, 5, 6}, Entries: row(4, 2, 4)})
	step(t, r, tick(9), api.Output{})
	step(t, r, tick(9), api.Output{})
	step(t, r, tick(1), api.Output{Hard: hard(6, 3), Send: asks(5, 4, 0, 5, 6)})
	step(t, r, tick(1), api.Output{Hard: hard(7, 3), Send: asks(5, 4, 0, 5, 6)})

	r = made(t, 0, api.Hard{Term: 4}, snap(3, 2, 9, 0, 1), nil, 1)
	step(t, r, tick(9), api.Output{Hard: hard(5, 1), Send: asks(3, 2, 1)})
}

// P12.3: who does not vote by its own entries does not stand, but waits anew.
func TestStandNoVoter(t *testing.T) {
	for _, x := range []struct {
		s api.Snap
		l []api.Entry
	}{
		{first(1, 2), nil}, {snap(3, 1, 9, 1, 2), row(4, 1)}, {first(0, 1, 2), with(nil, 1, 1, votes(1, 2))},
	} {
		r := made(t, 0, api.Hard{Term: 1, Vote: 2}, x.s, x.l, 1)
		for range 5 {
			step(t, r, tick(1), api.Output{})
			role(t, r, api.Follower, 1, 2)
		}
		step(t, r, tick(4), api.Output{})
		last := x.s.Index + len(x.l)
		term := min(last, 1)
		e := api.Entry{Index: last + 1, Term: 1, Data: votes(0, 1, 2)}
		step(t, r, hear(api.Msg{Kind: api.MAppend, From: 1, Term: 1, Index: last, LogTerm: term, Entries: []api.Entry{e}}), api.Output{
			Entries: []api.Entry{e}, Send: []api.Msg{{Kind: api.MAppended, To: 1, Index: last + 1, Yes: true}},
		})
		for range 3 {
			step(t, r, tick(1), api.Output{})
		}
		step(t, r, tick(1), api.Output{Hard: hard(2, 1), Send: asks(last+1, 1, 1, 2)})
	}
}

// P12.3: behind the last term nobody stands; who is a candidate in it stays one, and may win.
func TestStandLastTerm(t *testing.T) {
	r := made(t, 0, api.Hard{Term: most}, first(0), nil, 1)
	for range 3 {
		step(t, r, tick(1), api.Output{})
		role(t, r, api.Follower, most, 0)
	}
	r = made(t, 0, api.Hard{Term: most - 1}, first(0, 1, 2), nil, 1)
	step(t, r, tick(2), api.Output{Hard: hard(most, 1), Send: asks(0, 0, 1, 2)})
	step(t, r, tick(2), api.Output{})
	step(t, r, tick(2), api.Output{})
	role(t, r, api.Candidate, most, 1)
	r.Step(yes(2, most))
	role(t, r, api.Leader, most, 1)
}

// P12.3, P12.4: a majority of the voters; each counts once, and in the term for which it voted alone.
func TestWin(t *testing.T) {
	r := made(t, 0, api.Hard{Term: 1}, first(0, 1, 2, 3, 4), row(1, 1), 1)
	step(t, r, tick(1), api.Output{Hard: hard(2, 1), Send: asks(1, 1, 1, 2, 3, 4)})
	step(t, r, yes(1, 2), api.Output{})
	step(t, r, tick(7), api.Output{Hard: hard(3, 1), Send: asks(1, 1, 1, 2, 3, 4)})
	for _, in := range []api.Input{yes(2, 3), yes(2, 3), yes(5, 3), yes(6, 3), yes(1, 2), yes(3, 1), hear(api.Msg{Kind: api.MVoted, From: 3, Term: 3})} {
		step(t, r, in, api.Output{})
		role(t, r, api.Candidate, 3, 1)
	}
	e := api.Entry{Index: 2, Term: 3, Data: none()}
	step(t, r, yes(4, 3), api.Output{Entries: []api.Entry{e}, Send: feeds(api.Msg{Kind: api.MAppend, Index: 1, LogTerm: 1, Entries: []api.Entry{e}}, 1, 2, 3, 4)})
	is(t, r, api.View{Role: api.Leader, Leader: 1, Hard: api.Hard{Term: 3, Vote: 1}, Voters: []int{0, 1, 2, 3, 4}, Entries: append(row(1, 1), e)})
	step(t, r, yes(1, 3), api.Output{})

	// Of two voters both are needed, of one that one alone.
	r = made(t, 0, api.Hard{}, first(0, 1), nil, 1)
	step(t, r, tick(1), api.Output{Hard: hard(1, 1), Send: asks(0, 0, 1)})
	role(t, r, api.Candidate, 1, 1)
	r = made(t, 0, api.Hard{Term: 2}, snap(3, 2, 9, 0), row(4, 2), 1)
	e = api.Entry{Index: 5, Term: 3, Data: none()}
	step(t, r, tick(1), api.Output{Hard: hard(3, 1), Entries: []api.Entry{e}, Apply: append(row(4, 2), e)})
	is(t, r, api.View{Role: api.Leader, Leader: 1, Hard: api.Hard{Term: 3, Vote: 1}, Commit: 5, Index: 3, Term: 2, Voters: []int{0}, Entries: append(row(4, 2), e)})
}

// P12.3: where there is no index for its first entry, a winner follows; Term, Vote and ticks stay.
func TestWinFull(t *testing.T) {
	s := snap(most-1, 2, 9, 0)
	r := made(t, 0, api.Hard{Term: 2}, s, row(most, 2), 1)
	step(t, r, tick(1), api.Output{Hard: hard(3, 1)})
	is(t, r, api.View{Hard: api.Hard{Term: 3, Vote: 1}, Commit: most - 1, Index: most - 1, Term: 2, Voters: []int{0}, Entries: row(most, 2)})

	s.Voters = []int{0, 1, 2}
	r = made(t, 0, api.Hard{Term: 2}, s, row(most, 2), 1)
	step(t, r, tick(5), api.Output{Hard: hard(3, 1), Send: asks(most, 2, 1, 2)})
	for range 3 {
		step(t, r, tick(5), api.Output{})
	}
	step(t, r, yes(1, 3), api.Output{})
	role(t, r, api.Follower, 3, 1)
	step(t, r, yes(2, 3), api.Output{})
	step(t, r, tick(5), api.Output{})
	step(t, r, tick(5), api.Output{Hard: hard(4, 1), Send: asks(most, 2, 1, 2)})
}

// P12.3: behind the last index nothing is added.
func TestAddFull(t *testing.T) {
	r := leader(t, snap(most-1, 2, 9, 0), most-1)
	refused(t, r, api.Input{Kind: api.IPropose, Data: open()}, api.ErrFull)
	refused(t, r, api.Input{Kind: api.IRoster, Voters: []int{0, 1}}, api.ErrFull)
	refused(t, r, api.Input{Kind: api.IRoster, Voters: []int{0, 1, 2}}, api.ErrChange)
	refused(t, r, api.Input{Kind: api.IPropose, Data: none()}, api.ErrCommand)
	r = leader(t, snap(most-2, 2, 9, 0), most-2)
	e := api.Entry{Index: most, Term: 3, Data: open()}
	step(t, r, api.Input{Kind: api.IPropose, Data: open()}, api.Output{Index: most, Entries: []api.Entry{e}, Apply: []api.Entry{e}})
	refused(t, r, api.Input{Kind: api.IPropose, Data: open()}, api.ErrFull)
}

// P12.3: a leader feeds each other voter at each tick, from what that one needs next on, at most 8 entries; it never stands.
func TestTellAll(t *testing.T) {
	r := leader(t, snap(3, 2, 9, 0, 1, 2), 20)
	all := append(row(4, slices.Repeat([]int{2}, 17)...), api.Entry{Index: 21, Term: 3, Data: none()})
	own := api.Msg{Kind: api.MAppend, Index: 20, LogTerm: 2, Commit: 3, Entries: all[17:]}
	for range 3 {
		step(t, r, tick(1), api.Output{Send: feeds(own, 1, 2)})
	}
	role(t, r, api.Leader, 3, 1)
	// Node 1 lacks all behind 5, node 2 has all.
	some := api.Msg{Kind: api.MAppend, Index: 5, LogTerm: 2, Commit: 3, Entries: all[2:10]}
	step(t, r, hear(api.Msg{Kind: api.MAppended, From: 1, Term: 3, Index: 6}), api.Output{Send: feeds(some, 1)})
	step(t, r, has(2, 21, 0), api.Output{Apply: all})
	some.Commit = 21
	step(t, r, tick(1), api.Output{Send: append(feeds(some, 1), api.Msg{Kind: api.MAppend, To: 2, Index: 21, LogTerm: 3, Commit: 21})})
	// It is fed further as far as it is known to have more.
	step(t, r, has(1, 13, 0), api.Output{Send: feeds(api.Msg{Kind: api.MAppend, Index: 13, LogTerm: 2, Commit: 21, Entries: all[10:]}, 1)})
	step(t, r, has(1, 13, 0), api.Output{})
	step(t, r, has(1, 21, 0), api.Output{})
	step(t, r, tick(1), api.Output{Send: feeds(api.Msg{Kind: api.MAppend, Index: 21, LogTerm: 3, Commit: 21}, 1, 2)})
}

// P12.3: a tick counts for a leader too: who leads no longer stands as soon as it has waited long enough.
func TestLeaderTicks(t *testing.T) {
	r := made(t, 0, api.Hard{}, first(0, 1), nil, 1)
	r.Step(tick(3))
	r.Step(yes(1, 1))
	r.Step(tick(1))
	step(t, r, hear(api.Msg{Kind: api.MVoted, From: 1, Term: 5}), api.Output{Hard: hard(5, 0)})
	step(t, r, tick(1), api.Output{})
	step(t, r, tick(1), api.Output{Hard: hard(6, 1), Send: asks(1, 1, 1)})
	// It has led with 0 ticks.
	r = made(t, 0, api.Hard{}, first(0, 1), nil, 1)
	r.Step(tick(3))
	r.Step(tick(1))
	r.Step(tick(1))
	r.Step(yes(1, 1))
	r.Step(hear(api.Msg{Kind: api.MVoted, From: 1, Term: 5}))
	step(t, r, tick(1), api.Output{})
	step(t, r, tick(1), api.Output{})
	step(t, r, tick(1), api.Output{Hard: hard(6, 1), Send: asks(1, 1, 1)})
}

// P12.3: what may be proposed, and to whom.
func TestPropose(t *testing.T) {
	follower := made(t, 0, api.Hard{}, first(0, 1), nil, 1)
	candidate := made(t, 0, api.Hard{}, first(0, 1), nil, 1)
	candidate.Step(tick(1))
	lead := leader(t, first(0, 1, 2), 2)
	for _, r := range []*raft.Raft{follower, candidate, lead} {
		for _, b := range [][]byte{nil, {}, {9}, none(), votes(0), votes(0, 1), votes(0, 1, 2, 3), append(open(), 0), {0, 0}, {1, 2}, data(5000)} {
			refused(t, r, api.Input{Kind: api.IPropose, Data: b}, api.ErrCommand)
		}
	}
	for _, b := range [][]byte{open(), retain(7), bytesOf(api.Command{Kind: api.CExpire, At: 3})} {
		refused(t, follower, api.Input{Kind: api.IPropose, Data: b}, api.ErrLeader)
		refused(t, candidate, api.Input{Kind: api.IPropose, Data: b}, api.ErrLeader)
	}
	e := api.Entry{Index: 4, Term: 3, Data: retain(7)}
	both := []api.Entry{{Index: 3, Term: 3, Data: none()}, e}
	step(t, lead, api.Input{Kind: api.IPropose, Data: retain(7)}, api.Output{Index: 4, Entries: []api.Entry{e}, Send: feeds(api.Msg{Kind: api.MAppend, Index: 2, LogTerm: 2, Entries: both}, 1, 2)})
	step(t, lead, has(2, 4, 0), api.Output{Apply: append(row(1, 2, 2), both...)})

	alone := leader(t, first(0), 2)
	e = api.Entry{Index: 4, Term: 3, Data: open()}
	step(t, alone, api.Input{Kind: api.IPropose, Data: open()}, api.Output{Index: 4, Entries: []api.Entry{e}, Apply: []api.Entry{e}})
}

// P12.3: which other voters may be asked for, of whom, and when.
func TestRosterRefused(t *testing.T) {
	follower := made(t, 0, api.Hard{}, first(0, 1, 2), nil, 1)
	candidate := made(t, 0, api.Hard{}, first(0, 1, 2), nil, 1)
	candidate.Step(tick(1))
	lead := leader(t, first(0, 1, 2), 2)
	lists := [][]int{nil, {}, {1, 2}, {0, 1}, {0, 1, 2}, {0, 1, 2, 3}, {0, 1, 2, 7}, {0, 0}, {1, 2, 3}}
	for _, l := range lists {
		refused(t, follower, api.Input{Kind: api.IRoster, Voters: l}, api.ErrLeader)
		refused(t, candidate, api.Input{Kind: api.IRoster, Voters: l}, api.ErrLeader)
		refused(t, lead, api.Input{Kind: api.IRoster, Voters: l}, api.ErrBusy)
	}
	lead.Step(has(1, 2, 0))
	refused(t, lead, api.Input{Kind: api.IRoster, Voters: []int{0, 1}}, api.ErrBusy)
	lead.Step(has(1, 3, 0))
	for _, x := range []struct {
		l []int
		e api.Errno
	}{
		{nil, api.ErrChange}, {[]int{1, 2}, api.ErrChange}, {[]int{7}, api.ErrChange}, {[]int{2, 1}, api.ErrChange}, {[]int{1, 1, 2}, api.ErrChange},
		{[]int{0, 1, 7}, api.ErrRoster}, {[]int{0, 0}, api.ErrRoster}, {[]int{1, 0, 2}, api.ErrRoster}, {[]int{-1, 0, 1, 2}, api.ErrRoster},
		{[]int{0}, api.ErrChange}, {[]int{0, 1, 2}, api.ErrChange}, {[]int{0, 1, 2, 3, 4}, api.ErrChange}, {[]int{0, 1, 3}, api.ErrChange},
	} {
		refused(t, lead, api.Input{Kind: api.IRoster, Voters: x.l}, x.e)
	}
	lead.Step(api.Input{Kind: api.IRoster, Voters: []int{0, 1}})
	for _, l := range lists {
		refused(t, lead, api.Input{Kind: api.IRoster, Voters: l}, api.ErrBusy)
	}
}

// P12.3: other voters count from their entry on, and one change is done behind the other.
func TestRoster(t *testing.T) {
	r := leader(t, first(0, 1, 2), 2)
	r.Step(has(1, 3, 0))
	join := api.Entry{Index: 4, Term: 3, Data: votes(0, 1, 2, 5)}
	fromOwn := []api.Entry{{Index: 3, Term: 3, Data: none()}, join}
	step(t, r, api.Input{Kind: api.IRoster, Voters: []int{0, 1, 2, 5}}, api.Output{Index: 4, Entries: []api.Entry{join}, Send: []api.Msg{
		{Kind: api.MAppend, To: 1, Index: 3, LogTerm: 3, Commit: 3, Entries: []api.Entry{join}},
		{Kind: api.MAppend, To: 2, Index: 2, LogTerm: 2, Commit: 3, Entries: fromOwn},
		{Kind: api.MAppend, To: 5, Index: 2, LogTerm: 2, Commit: 3, Entries: fromOwn},
	}})
	if v := r.View(); !slices.Equal(v.Voters, []int{0, 1, 2, 5}) || v.Commit != 3 {
		t.Fatal(v)
	}
	step(t, r, has(1, 4, 0), api.Output{})
	refused(t, r, api.Input{Kind: api.IRoster, Voters: []int{0, 1, 2}}, api.ErrBusy)
	step(t, r, has(5, 4, 0), api.Output{Apply: []api.Entry{join}})
	leave := api.Entry{Index: 5, Term: 3, Data: votes(0, 1, 2)}
	step(t, r, api.Input{Kind: api.IRoster, Voters: []int{0, 1, 2}}, api.Output{Index: 5, Entries: []api.Entry{leave}, Send: []api.Msg{
		{Kind: api.MAppend, To: 1, Index: 4, LogTerm: 3, Commit: 4, Entries: []api.Entry{leave}},
		{Kind: api.MAppend, To: 2, Index: 2, LogTerm: 2, Commit: 4, Entries: append(slices.Clone(fromOwn), leave)},
	}})
	step(t, r, has(5, 5, 0), api.Output{})
	step(t, r, has(2, 5, 0), api.Output{Apply: []api.Entry{leave}})

	// Who is left alone commits the change alone.
	r = leader(t, first(0, 1), 2)
	r.Step(has(1, 3, 0))
	alone := api.Entry{Index: 4, Term: 3, Data: votes(0)}
	step(t, r, api.Input{Kind: api.IRoster, Voters: []int{0}}, api.Output{Index: 4, Entries: []api.Entry{alone}, Apply: []api.Entry{alone}})
}

// P12.3: a look is asked of a leader whose own first entry is committed.
func TestReadRefused(t *testing.T) {
	r := made(t, 0, api.Hard{}, first(0, 1, 2), nil, 1)
	refused(t, r, api.Input{Kind: api.IRead, ID: 4}, api.ErrLeader)
	r.Step(tick(1))
	refused(t, r, api.Input{Kind: api.IRead, ID: 4}, api.ErrLeader)
	r = leader(t, first(0, 1, 2), 2)
	refused(t, r, api.Input{Kind: api.IRead, ID: 4}, api.ErrBusy)
	r.Step(has(1, 2, 0))
	refused(t, r, api.Input{Kind: api.IRead, ID: 4}, api.ErrBusy)
}

// P12.3: a look is answered when a majority has answered its round, at what was committed when it came.
func TestRead(t *testing.T) {
	alone := leader(t, first(0), 2)
	for _, id := range []int{5, 5, 0, -1, math.MinInt, math.MaxInt} {
		step(t, alone, api.Input{Kind: api.IRead, ID: id}, api.Output{Reads: []api.Read{{ID: id, Index: 3}}})
	}

	r := leader(t, first(0, 1, 2, 3, 4), 2)
	r.Step(has(1, 3, 0))
	r.Step(has(2, 3, 0))
	told := func(round, commit int) []api.Msg {
		l := feeds(api.Msg{Kind: api.MAppend, Index: 3, LogTerm: 3, Commit: commit, Round: round}, 1, 2)
		own := api.Entry{Index: 3, Term: 3, Data: none()}
		return append(l, feeds(api.Msg{Kind: api.MAppend, Index: 2, LogTerm: 2, Commit: commit, Round: round, Entries: []api.Entry{own}}, 3, 4)...)
	}
	step(t, r, api.Input{Kind: api.IRead, ID: 9}, api.Output{Send: told(1, 3)})
	step(t, r, has(1, 3, 1), api.Output{})
	step(t, r, api.Input{Kind: api.IRead, ID: 8}, api.Output{Send: told(2, 3)})
	step(t, r, api.Input{Kind: api.IRead, ID: 9}, api.Output{Send: told(3, 3)})
	step(t, r, has(2, 3, 0), api.Output{})
	step(t, r, has(5, 3, 3), api.Output{})
	step(t, r, has(6, 3, 3), api.Output{})
	// Rounds 1 and 2 are answered by 0, 1, 2; the commit may be further by then.
	r.Step(api.Input{Kind: api.IPropose, Data: open()})
	e := api.Entry{Index: 4, Term: 3, Data: open()}
	step(t, r, has(1, 4, 1), api.Output{})
	step(t, r, has(2, 4, 2), api.Output{Apply: []api.Entry{e}, Reads: []api.Read{{ID: 9, Index: 3}}})
	step(t, r, has(1, 3, 3), api.Output{Reads: []api.Read{{ID: 8, Index: 3}}})
	step(t, r, has(1, 3, 1), api.Output{})
	step(t, r, has(2, 3, 3), api.Output{Reads: []api.Read{{ID: 9, Index: 3}}})
	step(t, r, has(2, 3, 3), api.Output{})
}

// P12.3, P12.4: several looks at once, in the order in which they came; a round beyond the leader's is none of later ones.
func TestReadRounds(t *testing.T) {
	r := leader(t, first(0, 1, 2), 0)
	r.Step(has(1, 1, 0))
	r.Step(api.Input{Kind: api.IRead, ID: 7})
	r.Step(api.Input{Kind: api.IRead, ID: 3})
	r.Step(api.Input{Kind: api.IRead, ID: 5})
	step(t, r, has(2, 1, most), api.Output{Reads: []api.Read{{ID: 7, Index: 1}, {ID: 3, Index: 1}, {ID: 5, Index: 1}}})
	r.Step(api.Input{Kind: api.IRead, ID: 2})
	step(t, r, has(1, 1, 3), api.Output{})
	step(t, r, has(2, 1, 3), api.Output{})
	step(t, r, has(2, 1, 4), api.Output{Reads: []api.Read{{ID: 2, Index: 1}}})
	// Who refuses entries has answered the round; it is looked at when there is agreement next.
	r.Step(api.Input{Kind: api.IRead, ID: 1})
	own := []api.Entry{{Index: 1, Term: 3, Data: none()}}
	lead := leader(t, first(0, 1, 2), 0)
	lead.Step(has(1, 1, 0))
	lead.Step(api.Input{Kind: api.IRead, ID: 1})
	step(t, lead, hear(api.Msg{Kind: api.MAppended, From: 2, Term: 3, Index: 1, Round: 1}), api.Output{
		Send: feeds(api.Msg{Kind: api.MAppend, Commit: 1, Round: 1, Entries: own}, 2),
	})
	step(t, lead, has(1, 1, 0), api.Output{Reads: []api.Read{{ID: 1, Index: 1}}})
}

// P12.3: looks wait for a majority of the voters that there are now, and are forgotten by who leads no longer.
func TestReadVoters(t *testing.T) {
	r := leader(t, first(0, 1), 0)
	r.Step(has(1, 1, 0))
	r.Step(api.Input{Kind: api.IRead, ID: 7})
	alone := api.Entry{Index: 2, Term: 3, Data: votes(0)}
	step(t, r, api.Input{Kind: api.IRoster, Voters: []int{0}}, api.Output{Index: 2, Entries: []api.Entry{alone}, Apply: []api.Entry{alone}, Reads: []api.Read{{ID: 7, Index: 1}}})

	r = leader(t, first(0, 1), 0)
	r.Step(has(1, 1, 0))
	r.Step(api.Input{Kind: api.IRead, ID: 7})
	r.Step(hear(api.Msg{Kind: api.MVote, From: 1, Term: 9}))
	r.Step(tick(1))
	for r.View().Role != api.Candidate {
		r.Step(tick(1))
	}
	term := r.View().Hard.Term
	r.Step(yes(1, term))
	step(t, r, hear(api.Msg{Kind: api.MAppended, From: 1, Term: term, Index: 2, Round: 1, Yes: true}), api.Output{Apply: []api.Entry{{Index: 2, Term: term, Data: none()}}})
	step(t, r, api.Input{Kind: api.IRead, ID: 8}, api.Output{Send: feeds(api.Msg{Kind: api.MAppend, Index: 2, LogTerm: term, Commit: 2, Round: 1}, 1)})
}

// P12.3: a state may be kept of an index that was committed, behind that of the snapshot.
func TestPackRefused(t *testing.T) {
	r := made(t, 0, api.Hard{Term: 2}, snap(3, 1, 5, 0, 1), row(4, 1, 2, 2), 9)
	r.Step(hear(api.Msg{Kind: api.MAppend, From: 1, Term: 2, Index: 6, LogTerm: 2, Commit: 5}))
	for _, index := range []int{3, 2, 0, -1, 6, 7, math.MinInt, math.MaxInt} {
		refused(t, r, api.Input{Kind: api.IPack, Index: index, Data: data(5)}, api.ErrIndex)
		refused(t, r, api.Input{Kind: api.IPack, Index: index, Data: data(api.MaxImage + 1)}, api.ErrIndex)
	}
	refused(t, r, api.Input{Kind: api.IPack, Index: 4, Data: data(api.MaxImage + 1)}, api.ErrLong)
	s := snap(5, 2, api.MaxImage, 0, 1)
	step(t, r, api.Input{Kind: api.IPack, Index: 5, Data: s.Data}, api.Output{Snap: &s})
	refused(t, r, api.Input{Kind: api.IPack, Index: 4, Data: data(5)}, api.ErrIndex)
	refused(t, r, api.Input{Kind: api.IPack, Index: 5, Data: data(5)}, api.ErrIndex)
	r = made(t, 0, api.Hard{}, first(0), nil, 9)
	refused(t, r, api.Input{Kind: api.IPack, Data: data(5)}, api.ErrIndex)
}

// P12.3: a snapshot has the voters by the entries up to it; what stands behind stays.
func TestPack(t *testing.T) {
	l := with(with(with(row(4, 1, 1), 6, 2, votes(0, 1, 2)), 7, 2, open()), 8, 2, votes(0, 1))
	for _, x := range []struct {
		index  int
		term   int
		voters []int
	}{{4, 1, []int{0, 1}}, {5, 1, []int{0, 1}}, {6, 2, []int{0, 1, 2}}, {7, 2, []int{0, 1, 2}}, {8, 2, []int{0, 1}}} {
		r := made(t, 0, api.Hard{Term: 2}, snap(3, 1, 5, 0, 1), append(slices.Clone(l), row(9, 2)...), 9)
		r.Step(hear(api.Msg{Kind: api.MAppend, From: 1, Term: 2, Index: 9, LogTerm: 2, Commit: 8}))
		s := snap(x.index, x.term, 700, x.voters...)
		step(t, r, api.Input{Kind: api.IPack, Index: x.index, Data: data(700)}, api.Output{Snap: &s})
		rest := append(slices.Clone(l), row(9, 2)...)[x.index-3:]
		is(t, r, api.View{Leader: 2, Hard: api.Hard{Term: 2}, Commit: 8, Index: x.index, Term: x.term, Voters: []int{0, 1}, Entries: rest})
		// What is cut behind the snapshot takes its voters with it.
		e := api.Entry{Index: 9, Term: 3, Data: votes(0, 1, 4)}
		r.Step(hear(api.Msg{Kind: api.MAppend, From: 1, Term: 3, Index: 8, LogTerm: 2, Entries: []api.Entry{e}}))
		if v := r.View(); !slices.Equal(v.Voters, []int{0, 1, 4}) {
			t.Fatal(v)
		}
		r.Step(hear(api.Msg{Kind: api.MAppend, From: 1, Term: 4, Index: 8, LogTerm: 2, Entries: row(9, 4)}))
		if v := r.View(); !slices.Equal(v.Voters, []int{0, 1}) || v.Commit != 8 {
			t.Fatal(v)
		}
	}
}

// P12.3: an entry of voters that a snapshot took in is no longer one that is not committed; all voters behind the snapshot count on.
func TestPackLeader(t *testing.T) {
	r := leader(t, first(0, 1), 0)
	r.Step(has(1, 1, 0))
	r.Step(api.Input{Kind: api.IRoster, Voters: []int{0}})
	s := snap(2, 3, 4, 0)
	step(t, r, api.Input{Kind: api.IPack, Index: 2, Data: data(4)}, api.Output{Snap: &s})
	is(t, r, api.View{Role: api.Leader, Leader: 1, Hard: api.Hard{Term: 3, Vote: 1}, Commit: 2, Index: 2, Term: 3, Voters: []int{0}})
	e := api.Entry{Index: 3, Term: 3, Data: votes(0, 6)}
	step(t, r, api.Input{Kind: api.IRoster, Voters: []int{0, 6}}, api.Output{Index: 3, Entries: []api.Entry{e}, Send: []api.Msg{
		{Kind: api.MInstall, To: 6, Index: 2, LogTerm: 3, Done: true, Voters: []int{0}, Data: data(4)},
	}})
}
