package raft

import (
	"spandrel/api"
	"spandrel/roster"
)

// hear takes a message, if it may be and is to this node.
func (n *node) hear(m api.Msg) api.Errno {
	switch {
	case Check(m) != api.OK || m.To != n.id:
		return api.ErrMsg
	case m.Term < n.hard.Term:
		n.hearLate(m)
		return api.OK
	case m.Term > n.hard.Term:
		n.follow()
		n.hard, n.leader = api.Hard{Term: m.Term}, 0
	}
	switch m.Kind {
	case api.MVote:
		n.vote(m)
	case api.MVoted:
		n.voted(m)
	case api.MAppend:
		n.appendTo(m)
	case api.MInstall:
		n.install(m)
	case api.MAppended:
		n.appended(m)
	case api.MInstalled:
		n.installed(m)
	}
	return api.OK
}

// hearLate tells who asks for something in a term that is over that it is.
func (n *node) hearLate(m api.Msg) {
	kind := api.MVoted
	switch m.Kind {
	case api.MAppend, api.MInstall:
		kind = api.MAppended
		fallthrough
	case api.MVote:
		n.send(api.Msg{Kind: kind, To: m.From})
	}
}

// vote answers a candidate.
func (n *node) vote(m api.Msg) {
	free := n.hard.Vote == 0 || n.hard.Vote == m.From+1
	yes := n.role == api.Follower && free && n.Fresh(m.Index, m.LogTerm)
	if yes {
		n.hard.Vote, n.ticks = m.From+1, 0
	}
	n.send(api.Msg{Kind: api.MVoted, To: m.From, Yes: yes})
}

// voted counts a vote.
func (n *node) voted(m api.Msg) {
	if n.role != api.Candidate || !m.Yes {
		return
	}
	n.votes = roster.Join(n.votes, m.From)
	n.mayWin()
}

// heed follows who leads: whether one may, for who leads itself does not.
func (n *node) heed(m api.Msg) bool {
	if n.role == api.Leader {
		return false
	}
	n.follow()
	n.leader, n.ticks = m.From+1, 0
	return true
}

// appendTo takes a leader's entries, if they go on from what is here, and touch nothing that was committed.
func (n *node) appendTo(m api.Msg) {
	if !n.heed(m) {
		return
	}
	answer := api.Msg{Kind: api.MAppended, To: m.From, Round: m.Round}
	from, more, ok := n.Merge(m.Index, m.LogTerm, m.Entries...)
	if !ok || from != 0 && from <= n.commit {
		answer.Index = n.Hint(m.Index)
		n.send(answer)
		return
	}
	n.drop(from)
	n.put(more...)
	match := m.Index + len(m.Entries)
	n.commit = max(n.commit, min(m.Commit, match))
	answer.Index, answer.Yes = match, true
	n.send(answer)
}

// install takes a piece of a leader's snapshot, if that has more than was committed here.
func (n *node) install(m api.Msg) {
	if !n.heed(m) {
		return
	}
	answer := api.Msg{Kind: api.MInstalled, To: m.From, Index: m.Index, Round: m.Round}
	answer.Done = m.Index <= n.commit || n.takePiece(m)
	if !answer.Done {
		answer.Commit = n.intake.Have(m.Index, m.LogTerm)
	}
	n.send(answer)
}

// takePiece places a snapshot, if a piece was its last one. One that does not go on leaves the intake as it is: how much that has is told.
func (n *node) takePiece(m api.Msg) bool {
	all, whole, _ := n.intake.Take(m.Index, m.LogTerm, m.Commit, m.Data, m.Done)
	if whole {
		n.place(api.Snap{Index: m.Index, Term: m.LogTerm, Voters: m.Voters, Data: all})
		n.commit = m.Index
	}
	return whole
}

// appended is told what came of entries.
func (n *node) appended(m api.Msg) {
	last, _ := n.Last()
	if n.role != api.Leader || m.Yes && m.Index > last {
		return
	}
	p := &n.peers[m.From]
	p.answer(min(m.Round, n.round))
	if !m.Yes {
		p.next = max(min(m.Index, p.next-1), p.match+1)
		n.feed(m.From)
		return
	}
	more := p.reach(m.Index)
	n.agree()
	if more && p.next <= last {
		n.feed(m.From)
	}
}

// installed is told what came of a piece of a snapshot.
func (n *node) installed(m api.Msg) {
	last, _ := n.Last()
	if n.role != api.Leader || m.Index > last {
		return
	}
	p := &n.peers[m.From]
	p.answer(min(m.Round, n.round))
	switch {
	case m.Done:
		p.reach(m.Index)
		n.agree()
		n.feed(m.From)
	case m.Index == n.snap.Index && m.Commit <= len(n.snap.Data):
		more := m.Commit > p.at
		p.at = m.Commit
		n.agree()
		if more {
			n.feed(m.From)
		}
	}
}
