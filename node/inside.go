package node

import (
	"errors"
	"slices"

	"spandrel/api"
	"spandrel/machine"
	"spandrel/raft"
)

// node is what lasts and a part in choosing one order, whose calls are its own, and the state that the entries up to commit have led to.
type node struct {
	memory
	*raft.Raft
	state  *machine.Machine
	halted error // why it runs no more; nil: it runs
}

// halt is why a node runs no more: at what it stopped, and the error that it met there.
type halt struct {
	at  string
	why api.Errno
}

func (h halt) Error() string { return "node: it stopped at " + h.at + ": " + h.why.Error() }

func (h halt) Unwrap() error { return h.why }

// why is the error at which a node stopped; OK: it runs.
func (n *node) why() api.Errno {
	var e api.Errno
	errors.As(n.halted, &e)
	return e
}

// handle takes an input: nothing is told of what came of it ahead of what must last.
func (n *node) handle(in api.Input) api.Done {
	if e := n.why(); e != api.OK {
		return api.Done{Err: e}
	}
	if in.Kind == api.IPack {
		in.Index, in.Data = n.state.Index(), n.state.Image()
	}
	o := n.Step(in)
	if o.Err != api.OK {
		return api.Done{Err: o.Err}
	}
	n.halted = n.settle(o, in.Kind == api.IMsg)
	if e := n.why(); e != api.OK {
		return api.Done{Err: e}
	}
	return api.Done{Index: o.Index, Send: o.Send, Answers: n.do(o.Apply), Reads: o.Reads}
}

// settle keeps what is to be kept, and takes the state of a snapshot that came by a message.
func (n *node) settle(o api.Output, came bool) error {
	if err := n.keep(o); err != nil {
		return err
	}
	if !came || o.Snap == nil {
		return nil
	}
	state, e := stateOf(*o.Snap)
	if e != api.OK {
		return halt{at: "a snapshot", why: e}
	}
	n.state = state
	return nil
}

// do does entries, one behind the other: what came of each. They go on from the state's, for raft tells them in turn.
func (n *node) do(l []api.Entry) []api.Answer {
	var answers []api.Answer
	for _, entry := range l {
		reply, _ := n.state.Apply(entry)
		answers = append(answers, api.Answer{Index: entry.Index, Term: entry.Term, Reply: reply})
	}
	return answers
}

// stateOf is the state that a snapshot has, if that is the one of which the snapshot tells.
func stateOf(s api.Snap) (*machine.Machine, api.Errno) {
	m, e := machine.Load(s.Data)
	if e != api.OK || m.Index() != s.Index || m.Term() != s.Term || !slices.Equal(m.Voters(), s.Voters) {
		return nil, api.ErrStore
	}
	return m, api.OK
}
