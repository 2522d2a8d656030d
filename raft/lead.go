package raft

import (
	"slices"

	"spandrel/api"
	"spandrel/machine"
	"spandrel/roster"
)

// lead is what a node knows as a leader.
type lead struct {
	first int // the index of its own first entry
	round int
	reads []read // by rising rounds
	peers [api.MaxNodes]peer
}

// read is a look that waits until a majority has answered a round.
type read struct {
	api.Read
	round int
}

// peer is what a leader knows of a node.
type peer struct {
	next     int // the entry to be sent next
	match    int // up to where it has the leader's entries
	at       int // how much of the snapshot it has
	answered int // the last round that it answered
}

// leadFrom is what one knows who begins to lead with an entry.
func leadFrom(first int) lead {
	l := lead{first: first}
	for i := range l.peers {
		l.peers[i].next = first
	}
	return l
}

// again has the snapshot sent from its beginning on, to all.
func (l *lead) again() {
	for i := range l.peers {
		l.peers[i].at = 0
	}
}

// answer is that a node answered a round.
func (p *peer) answer(round int) { p.answered = max(p.answered, round) }

// reach is that a node has the leader's entries up to an index: whether that is further than was known.
func (p *peer) reach(index int) bool {
	more := index > p.match
	p.match = max(p.match, index)
	p.next = max(p.next, p.match+1)
	return more
}

// propose adds an entry of a client's command.
func (n *node) propose(data []byte) api.Errno {
	c, e := machine.Get(data)
	switch {
	case e != api.OK:
		return e
	case c.Kind == api.CNone || c.Kind == api.CRoster:
		return api.ErrCommand
	case n.role != api.Leader:
		return api.ErrLeader
	}
	return n.add(data)
}

// change adds an entry of other voters, if the change ahead of it is done.
func (n *node) change(voters []int) api.Errno {
	now := n.rosters.upTo(api.MaxIndex)
	switch {
	case n.role != api.Leader:
		return api.ErrLeader
	case now.index > n.commit || n.commit < n.first:
		return api.ErrBusy
	case !roster.Votes(voters, n.id):
		return api.ErrChange
	}
	if e := roster.May(now.voters, voters); e != api.OK {
		return e
	}
	data, _ := machine.Put(api.Command{Kind: api.CRoster, Voters: voters})
	return n.add(data)
}

// look has a read wait until a majority has answered that the node still leads.
func (n *node) look(id int) api.Errno {
	switch {
	case n.role != api.Leader:
		return api.ErrLeader
	case n.commit < n.first:
		return api.ErrBusy
	}
	n.round++
	n.reads = append(n.reads, read{Read: api.Read{ID: id, Index: n.commit}, round: n.round})
	n.tellAll()
	n.agree()
	return api.OK
}

// add puts an entry of the leader's term behind all, if there is an index for it.
func (n *node) add(data []byte) api.Errno {
	last, _ := n.Last()
	if last >= api.MaxIndex {
		return api.ErrFull
	}
	n.put(api.Entry{Index: last + 1, Term: n.hard.Term, Data: data})
	n.out.Index = last + 1
	n.tellAll()
	n.agree()
	return api.OK
}

// tellAll sends each other voter what it lacks.
func (n *node) tellAll() {
	for _, to := range n.others() {
		n.feed(to)
	}
}

// feed sends a node what it lacks: of the snapshot, if the entries that it lacks are no more.
func (n *node) feed(to int) {
	p := n.peers[to]
	if base, _ := n.Base(); p.next <= base {
		n.feedSnap(to, p.at)
		return
	}
	term, _ := n.Term(p.next - 1)
	n.send(api.Msg{
		Kind: api.MAppend, To: to, Index: p.next - 1, LogTerm: term, Commit: n.commit, Round: n.round,
		Entries: n.From(p.next, api.MaxEntries),
	})
}

// feedSnap sends a node the piece of the snapshot that begins at a place.
func (n *node) feedSnap(to, at int) {
	rest := n.snap.Data[at:]
	piece := rest[:min(api.Chunk, len(rest))]
	n.send(api.Msg{
		Kind: api.MInstall, To: to, Index: n.snap.Index, LogTerm: n.snap.Term, Commit: at, Round: n.round, Done: len(piece) == len(rest),
		Voters: slices.Clone(n.snap.Voters), Data: slices.Clone(piece),
	})
}

// agree commits what a majority has, and lets those reads go whose round a majority has answered.
func (n *node) agree() {
	var has, answered [api.MaxNodes]int
	for i, p := range n.peers {
		has[i], answered[i] = p.match, p.answered
	}
	has[n.id], _ = n.Last()
	answered[n.id] = n.round
	index := roster.Agreed(n.voters(), has[:]...)
	// What stands ahead of the leader's own entries is committed by these alone.
	if term, _ := n.Term(index); index > n.commit && term == n.hard.Term {
		n.commit = index
	}
	n.release(roster.Agreed(n.voters(), answered[:]...))
}

// release lets the reads up to a round go.
func (n *node) release(round int) {
	for len(n.reads) > 0 && n.reads[0].round <= round {
		n.out.Reads = append(n.out.Reads, n.reads[0].Read)
		n.reads = n.reads[1:]
	}
}
