package raft

import (
	"spandrel/api"
	"spandrel/ledger"
	"spandrel/machine"
	"spandrel/roster"
	"spandrel/vault"
)

const (
	leastTimeout = 1
	mostTimeout  = 1000
)

// node is entries, whose calls are its own, what it knows as a leader, and all else that chapter 12.1 names.
type node struct {
	*ledger.Ledger
	lead
	id      int
	hard    api.Hard
	snap    api.Snap
	rosters rosters // of the snapshot and the entries
	role    int
	leader  int // and 1; 0: nobody knows
	commit  int
	ticks   int
	timeout int
	votes   []int // of a candidate: who voted for it
	intake  vault.Intake
	out     api.Output // what the step that is being done wants done
}

// step takes an input: what is to be done.
func (n *node) step(in api.Input) api.Output {
	defer n.letGo()
	hard, commit := n.hard, n.commit
	n.out.Err = n.take(in)
	if n.hard != hard {
		now := n.hard
		n.out.Hard = &now
	}
	// A snapshot has all up to its index: of that nothing is to be done.
	done := max(commit, n.snap.Index)
	n.out.Apply = n.From(done+1, n.commit-done)
	return n.out
}

// letGo forgets what a step has gathered: it is its caller's.
func (n *node) letGo() { n.out = api.Output{} }

// take does what an input says. An error comes ahead of all that changes something.
func (n *node) take(in api.Input) api.Errno {
	switch in.Kind {
	case api.ITick:
		n.tick(in.Timeout)
	case api.IMsg:
		return n.hear(in.Msg)
	case api.IPropose:
		return n.propose(in.Data)
	case api.IRoster:
		return n.change(in.Voters)
	case api.IRead:
		return n.look(in.ID)
	case api.IPack:
		return n.pack(in.Index, in.Data)
	default:
		return api.ErrArg
	}
	return api.OK
}

// tick lets time pass.
func (n *node) tick(timeout int) {
	n.ticks++
	switch {
	case n.role == api.Leader:
		n.tellAll()
	case n.ticks >= n.timeout:
		n.stand(timeout)
	}
}

// stand asks for votes, if the node may vote itself, and waits anew.
func (n *node) stand(timeout int) {
	n.ticks, n.timeout = 0, drawn(timeout)
	if !roster.Votes(n.voters(), n.id) || n.hard.Term >= api.MaxIndex {
		return
	}
	n.hard = api.Hard{Term: n.hard.Term + 1, Vote: n.id + 1}
	n.role, n.leader, n.votes = api.Candidate, 0, []int{n.id}
	index, term := n.Last()
	for _, to := range n.others() {
		n.send(api.Msg{Kind: api.MVote, To: to, Index: index, LogTerm: term})
	}
	n.mayWin()
}

// mayWin makes a leader of a candidate for whom a majority voted. Where there is no index for a leader's first entry, it does not lead.
func (n *node) mayWin() {
	if !roster.Majority(n.voters(), n.votes...) {
		return
	}
	n.follow()
	last, _ := n.Last()
	if last >= api.MaxIndex {
		return
	}
	nothing, _ := machine.Put(api.Command{Kind: api.CNone})
	n.put(api.Entry{Index: last + 1, Term: n.hard.Term, Data: nothing})
	n.role, n.leader, n.ticks = api.Leader, n.id+1, 0
	n.lead = leadFrom(last + 1)
	n.tellAll()
	n.agree()
}

// follow makes a follower of a node: what it knew as another one is no more.
func (n *node) follow() {
	n.role, n.votes, n.lead = api.Follower, nil, lead{}
}

// voters is who votes.
func (n *node) voters() []int { return n.rosters.upTo(api.MaxIndex).voters }

// others is who votes but the node itself.
func (n *node) others() []int { return roster.Leave(n.voters(), n.id) }

// send gathers a message.
func (n *node) send(m api.Msg) {
	m.From, m.Term = n.id, n.hard.Term
	n.out.Send = append(n.out.Send, m)
}

// put puts entries behind all. They are such as go on.
func (n *node) put(l ...api.Entry) {
	last, _ := n.Last()
	n.Add(l...)
	n.rosters = n.rosters.with(l...)
	n.out.Entries = n.From(last+1, len(l))
}

// drop takes the entries from an index on away, if that is one.
func (n *node) drop(from int) {
	if from == 0 {
		return
	}
	n.Cut(from)
	n.rosters = n.rosters.ahead(from)
	n.out.Cut = from
}

// pack places a snapshot of a state that was committed.
func (n *node) pack(index int, data []byte) api.Errno {
	if index <= n.snap.Index || index > n.commit {
		return api.ErrIndex
	}
	term, _ := n.Term(index)
	s := api.Snap{Index: index, Term: term, Voters: n.rosters.upTo(index).voters, Data: data}
	if e := vault.Check(s); e != api.OK {
		return e
	}
	n.place(s)
	return api.OK
}

// place makes a snapshot the node's, in place of the entries that it has.
func (n *node) place(s api.Snap) {
	n.snap = own(s)
	n.Rebase(s.Index, s.Term)
	last, _ := n.Last()
	n.rosters = n.rosters.behind(n.snap, last)
	n.lead.again()
	told := own(s)
	n.out.Snap = &told
}
