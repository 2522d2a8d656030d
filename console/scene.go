package console

import (
	"spandrel/api"
	"spandrel/audit"
	"spandrel/cluster"
)

// firstTimeout is of a cluster's nodes, when it is made.
const firstTimeout = 3

// scene is a cluster, and what was seen of it.
type scene struct {
	*cluster.Cluster             // one that no call made, ahead of the first line that makes one
	voters           []int       // the first ones
	log              []api.Entry // all that was committed
	calls            int         // how many began
}

// does is what a line answers, or why it was refused.
func (s *scene) does(x line) (string, error) {
	switch x.kind {
	case toFound:
		return s.found(x)
	case toShow:
		return s.show(x)
	case toList:
		return tell("log", s.terms()...), nil
	case toAudit:
		return tell("check", audit.Linear(s.voters, s.log, s.History())), nil
	}
	return s.step(x)
}

// found has another cluster be the scene's, of which nothing was seen yet.
func (s *scene) found(x line) (string, error) {
	c, e := cluster.New(x.numbers[nodes], x.voters, api.MaxRoom, firstTimeout)
	if e != api.OK {
		return "", fault{x.place, e}
	}
	*s = scene{Cluster: c, voters: x.voters}
	return "ok", nil
}

// show is what can be told of a node that runs.
func (s *scene) show(x line) (string, error) {
	at := s.Node(x.numbers[node])
	if at == nil {
		return "", fault{x.place, api.ErrNode}
	}
	return tellView(at.View()), nil
}

// terms is the terms of all entries that were committed.
func (s *scene) terms() []int {
	var l []int
	for _, x := range s.log {
		l = append(l, x.Term)
	}
	return l
}

// step does a line's step. If a call began by it, the line tells of that, whatever the step came to.
func (s *scene) step(x line) (string, error) {
	e := s.Step(x.step())
	s.look()
	if x.kind == api.SCall {
		if l := s.History(); len(l) > s.calls {
			s.calls = len(l)
			return tellCall(len(l)-1, l[len(l)-1]), nil
		}
	}
	if e != api.OK {
		return "", fault{x.place, e}
	}
	return "ok", nil
}

// look looks at all nodes: at what they have committed that was not seen yet.
func (s *scene) look() {
	var l []api.View
	for n := range s.Nodes() {
		if at := s.Node(n); at != nil {
			l = append(l, at.View())
		}
	}
	for {
		x, there := committed(l, len(s.log)+1)
		if !there {
			return
		}
		s.log = append(s.log, x)
	}
}

// committed is the entry of an index, if one of some nodes has it committed. One that has a snapshot in its place does not tell it.
func committed(l []api.View, index int) (api.Entry, bool) {
	for _, v := range l {
		if v.Index < index && index <= v.Commit {
			return v.Entries[index-v.Index-1], true
		}
	}
	return api.Entry{}, false
}
