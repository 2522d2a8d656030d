package raft_test

import (
	"slices"

	"spandrel/api"
	"spandrel/ledger"
	"spandrel/machine"
	"spandrel/raft"
	"spandrel/roster"
	"spandrel/vault"
)

// plain is a node as chapter 12 tells it, line by line: each thing by its name there, nothing worked out ahead.
type plain struct {
	id      int
	hard    api.Hard
	snap    api.Snap
	log     *ledger.Ledger
	role    int
	leads   int // who leads, and 1
	commit  int
	ticks   int
	timeout int
	voted   map[int]bool
	first   int
	round   int
	reads   []waiting
	of      map[int]*known
	intake  vault.Intake
	out     api.Output
}

// waiting is a read that a leader has, known what it knows of a node.
type waiting struct{ id, index, round int }
type known struct{ next, match, at, answered int }

// plainOf is what New makes; it is asked for such as may be alone.
func plainOf(id int, h api.Hard, s api.Snap, l []api.Entry, timeout int) *plain {
	log, _ := ledger.New(s.Index, s.Term, l...)
	if s.Index == 0 {
		s.Data = nil
	}
	return &plain{id: id, hard: h, snap: s, log: log, commit: s.Index, timeout: min(max(1, timeout), 1000)}
}

// rosterUpTo is who votes by the entries up to an index, and by which one.
func (p *plain) rosterUpTo(index int) ([]int, int) {
	voters, by := p.snap.Voters, p.snap.Index
	for _, e := range p.log.From(p.snap.Index+1, 1<<20) {
		if c, err := machine.Get(e.Data); err == api.OK && c.Kind == api.CRoster && e.Index <= index {
			voters, by = c.Voters, e.Index
		}
	}
	return voters, by
}

func (p *plain) voters() []int {
	l, _ := p.rosterUpTo(most)
	return l
}

func (p *plain) last() int {
	index, _ := p.log.Last()
	return index
}

// view is what View tells.
func (p *plain) view() api.View {
	index, term := p.log.Base()
	return api.View{ID: p.id, Role: p.role, Leader: p.leads, Hard: p.hard, Commit: p.commit, Index: index, Term: term, Voters: p.voters(), Entries: p.log.From(index+1, 1<<20)}
}

// step is what Step answers.
func (p *plain) step(in api.Input) api.Output {
	p.out = api.Output{}
	hard, commit := p.hard, p.commit
	if e := p.do(in); e != api.OK {
		return api.Output{Err: e}
	}
	if p.hard != hard {
		now := p.hard
		p.out.Hard = &now
	}
	if in.Kind != api.IMsg || p.out.Snap == nil {
		p.out.Apply = p.log.From(commit+1, p.commit-commit)
	}
	return p.out
}

func (p *plain) do(in api.Input) api.Errno {
	switch in.Kind {
	case api.ITick:
		p.ticks++
		if p.role == api.Leader {
			p.tellAll()
		} else if p.ticks >= p.timeout {
			p.stand(in.Timeout)
		}
	case api.IMsg:
		if raft.Check(in.Msg) != api.OK || in.Msg.To != p.id {
			return api.ErrMsg
		}
		p.take(in.Msg)
	case api.IPropose:
		c, e := machine.Get(in.Data)
		if e != api.OK {
			return e
		}
		if c.Kind == api.CNone || c.Kind == api.CRoster {
			return api.ErrCommand
		}
		if p.role != api.Leader {
			return api.ErrLeader
		}
		return p.add(in.Data)
	case api.IRoster:
		if e := p.mayChange(in.Voters); e != api.OK {
			return e
		}
		return p.add(votes(in.Voters...))
	case api.IRead:
		if p.role != api.Leader {
			return api.ErrLeader
		}
		if p.commit < p.first {
			return api.ErrBusy
		}
		p.round++
		p.reads = append(p.reads, waiting{in.ID, p.commit, p.round})
		p.tellAll()
		p.agree()
	case api.IPack:
		if in.Index <= p.snap.Index || in.Index > p.commit {
			return api.ErrIndex
		}
		term, _ := p.log.Term(in.Index)
		voters, _ := p.rosterUpTo(in.Index)
		s := api.Snap{Index: in.Index, Term: term, Voters: voters, Data: in.Data}
		if e := vault.Check(s); e != api.OK {
			return e
		}
		p.place(s)
	default:
		return api.ErrArg
	}
	return api.OK
}

func (p *plain) mayChange(voters []int) api.Errno {
	now, by := p.rosterUpTo(most)
	if p.role != api.Leader {
		return api.ErrLeader
	}
	if by > p.commit || p.commit < p.first {
		return api.ErrBusy
	}
	if !slices.Contains(voters, p.id) {
		return api.ErrChange
	}
	return roster.May(now, voters)
}

func (p *plain) stand(timeout int) {
	p.ticks, p.timeout = 0, min(max(1, timeout), 1000)
	if !slices.Contains(p.voters(), p.id) || p.hard.Term == most {
		return
	}
	p.role, p.hard, p.leads = api.Candidate, api.Hard{Term: p.hard.Term + 1, Vote: p.id + 1}, 0
	p.voted = map[int]bool{p.id: true}
	index, term := p.log.Last()
	for _, n := range p.voters() {
		if n != p.id {
			p.send(api.Msg{Kind: api.MVote, To: n, Index: index, LogTerm: term})
		}
	}
	p.mayWin()
}

func (p *plain) mayWin() {
	n := 0
	for _, v := range p.voters() {
		if p.voted[v] {
			n++
		}
	}
	if 2*n <= len(p.voters()) {
		return
	}
	if p.last() == most {
		p.follow()
		return
	}
	e := api.Entry{Index: p.last() + 1, Term: p.hard.Term, Data: none()}
	p.put(e)
	p.role, p.leads, p.ticks, p.first, p.round, p.reads, p.of = api.Leader, p.id+1, 0, e.Index, 0, nil, map[int]*known{}
	for n := range 7 {
		p.of[n] = &known{next: e.Index}
	}
	p.tellAll()
	p.agree()
}

func (p *plain) follow() { p.role, p.voted, p.reads, p.of = api.Follower, nil, nil, nil }

func (p *plain) send(m api.Msg) {
	m.From, m.Term = p.id, p.hard.Term
	p.out.Send = append(p.out.Send, m)
}

// put is entries behind the last one.
func (p *plain) put(l ...api.Entry) {
	if e := p.log.Add(l...); e != api.OK {
		panic(e)
	}
	p.out.Entries = append(p.out.Entries, l...)
}

func (p *plain) add(b []byte) api.Errno {
	if p.last() == most {
		return api.ErrFull
	}
	p.put(api.Entry{Index: p.last() + 1, Term: p.hard.Term, Data: b})
	p.out.Index = p.last()
	p.tellAll()
	p.agree()
	return api.OK
}

func (p *plain) tellAll() {
	for _, n := range p.voters() {
		if n != p.id {
			p.feed(n)
		}
	}
}

func (p *plain) feed(n int) {
	k := p.of[n]
	if k.next <= p.snap.Index {
		end := min(k.at+512, len(p.snap.Data))
		p.send(api.Msg{
			Kind: api.MInstall, To: n, Index: p.snap.Index, LogTerm: p.snap.Term, Commit: k.at, Round: p.round,
			Done: end == len(p.snap.Data), Voters: p.snap.Voters, Data: p.snap.Data[k.at:end],
		})
		return
	}
	term, _ := p.log.Term(k.next - 1)
	p.send(api.Msg{Kind: api.MAppend, To: n, Index: k.next - 1, LogTerm: term, Commit: p.commit, Round: p.round, Entries: p.log.From(k.next, 8)})
}

func (p *plain) agree() {
	for index := p.last(); index > p.commit; index-- {
		if !p.most(func(n int) bool { return n == p.id || p.of[n].match >= index }) {
			continue
		}
		if term, _ := p.log.Term(index); term == p.hard.Term {
			p.commit = index
		}
		break
	}
	var rest []waiting
	for _, w := range p.reads {
		if p.most(func(n int) bool { return n == p.id || p.of[n].answered >= w.round }) {
			p.out.Reads = append(p.out.Reads, api.Read{ID: w.id, Index: w.index})
		} else {
			rest = append(rest, w)
		}
	}
	p.reads = rest
}

// most tells whether something holds of a majority of the voters.
func (p *plain) most(holds func(n int) bool) bool {
	n := 0
	for _, v := range p.voters() {
		if holds(v) {
			n++
		}
	}
	return 2*n > len(p.voters())
}

func (p *plain) place(s api.Snap) {
	if e := p.log.Rebase(s.Index, s.Term); e != api.OK {
		panic(e)
	}
	s.Data = slices.Clone(s.Data)
	p.snap = s
	p.out.Snap = &s
	for _, k := range p.of {
		k.at = 0
	}
}

func (p *plain) take(m api.Msg) {
	if m.Term < p.hard.Term {
		switch m.Kind {
		case api.MVote:
			p.send(api.Msg{Kind: api.MVoted, To: m.From})
		case api.MAppend, api.MInstall:
			p.send(api.Msg{Kind: api.MAppended, To: m.From})
		}
		return
	}
	if m.Term > p.hard.Term {
		p.follow()
		p.hard, p.leads = api.Hard{Term: m.Term}, 0
	}
	switch m.Kind {
	case api.MVote:
		yes := p.role == api.Follower && (p.hard.Vote == 0 || p.hard.Vote == m.From+1) && p.log.Fresh(m.Index, m.LogTerm)
		if yes {
			p.hard.Vote, p.ticks = m.From+1, 0
		}
		p.send(api.Msg{Kind: api.MVoted, To: m.From, Yes: yes})
	case api.MVoted:
		if p.role == api.Candidate && m.Yes {
			p.voted[m.From] = true
			p.mayWin()
		}
	case api.MAppended, api.MInstalled:
		if p.role == api.Leader {
			p.told(m)
		}
	case api.MAppend, api.MInstall:
		if p.role == api.Leader {
			return
		}
		p.follow()
		p.leads, p.ticks = m.From+1, 0
		if m.Kind == api.MAppend {
			p.takeEntries(m)
		} else {
			p.takePiece(m)
		}
	}
}

func (p *plain) takeEntries(m api.Msg) {
	from, more, ok := p.log.Merge(m.Index, m.LogTerm, m.Entries...)
	if !ok || from > 0 && from <= p.commit {
		p.send(api.Msg{Kind: api.MAppended, To: m.From, Index: p.log.Hint(m.Index), Round: m.Round})
		return
	}
	if from > 0 {
		p.log.Cut(from)
		p.out.Cut = from
	}
	p.put(more...)
	match := m.Index + len(m.Entries)
	if to := min(m.Commit, match); to > p.commit {
		p.commit = to
	}
	p.send(api.Msg{Kind: api.MAppended, To: m.From, Index: match, Round: m.Round, Yes: true})
}

func (p *plain) takePiece(m api.Msg) {
	a := api.Msg{Kind: api.MInstalled, To: m.From, Index: m.Index, Round: m.Round}
	if m.Index <= p.commit {
		a.Done = true
	} else if b, ok, _ := p.intake.Take(m.Index, m.LogTerm, m.Commit, m.Data, m.Done); ok {
		p.place(api.Snap{Index: m.Index, Term: m.LogTerm, Voters: m.Voters, Data: b})
		p.commit, a.Done = m.Index, true
	} else {
		a.Commit = p.intake.Have(m.Index, m.LogTerm)
	}
	p.send(a)
}

// told is what a leader does when it is told what came of entries or of a piece.
func (p *plain) told(m api.Msg) {
	k := p.of[m.From]
	if m.Index > p.last() && (m.Yes || m.Kind == api.MInstalled) {
		return
	}
	if m.Round > k.answered {
		k.answered = min(m.Round, p.round)
	}
	match, at := k.match, k.at
	reached := func() {
		k.match = max(k.match, m.Index)
		k.next = max(k.next, k.match+1)
		p.agree()
	}
	switch {
	case m.Kind == api.MAppended && !m.Yes:
		k.next = max(k.match+1, min(m.Index, k.next-1))
		p.feed(m.From)
	case m.Kind == api.MAppended:
		reached()
		if k.match > match && k.next <= p.last() {
			p.feed(m.From)
		}
	case m.Done:
		reached()
		p.feed(m.From)
	case m.Index == p.snap.Index && m.Commit <= len(p.snap.Data):
		k.at = m.Commit
		p.agree()
		if k.at > at {
			p.feed(m.From)
		}
	}
}
