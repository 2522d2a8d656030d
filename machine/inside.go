package machine

import (
	"errors"
	"slices"

	"spandrel/api"
	"spandrel/session"
	"spandrel/store"
	"spandrel/wire"
)

// machine is a store and a table, whose calls are its own, who votes, and the last entry that was done.
type machine struct {
	*store.Store
	*session.Table
	index  int
	term   int
	voters []int
}

// refusal is why a command is not done.
type refusal struct{ why api.Errno }

func (r refusal) Error() string { return "machine: a command is refused: " + r.why.Error() }

func (r refusal) Unwrap() error { return r.why }

// refused is a refusal, if there is a reason for one.
func refused(why api.Errno) error {
	if why == api.OK {
		return nil
	}
	return refusal{why}
}

// follows tells whether an entry may be done next.
func (m *machine) follows(e api.Entry) bool {
	return e.Index == m.index+1 && e.Index <= api.MaxIndex && between(max(1, m.term), e.Term, api.MaxIndex)
}

// do does an entry that follows: the reply to its command, or nothing but why that is refused.
func (m *machine) do(e api.Entry) api.Reply {
	m.index, m.term = e.Index, e.Term
	r, err := m.command(e.Data)
	var why api.Errno
	if errors.As(err, &why) {
		return api.Reply{Err: why}
	}
	return r
}

// command does what bytes say: the reply, or why it is refused.
func (m *machine) command(b []byte) (api.Reply, error) {
	c, e := Get(b)
	if e != api.OK {
		return api.Reply{}, refused(e)
	}
	switch c.Kind {
	case api.COpen:
		return api.Reply{Session: m.index}, refused(m.Open(m.index))
	case api.CIngest:
		return m.ingest(c)
	case api.CExpire:
		return api.Reply{Gone: m.Expire(c.At)}, nil
	case api.CRetain:
		return api.Reply{Gone: m.Retain(c.At)}, nil
	case api.CRoster:
		m.voters = c.Voters
	}
	return api.Reply{}, nil
}

// ingest puts a session's spans in, unless that was done: what was answered then is answered again.
func (m *machine) ingest(c api.Command) (api.Reply, error) {
	kept, done, e := m.Ask(c.Session, c.Seq)
	if e != api.OK || done {
		return kept, refused(e)
	}
	// Get told no spans but such as may be.
	counts, _ := m.Ingest(c.Spans...)
	r := api.Reply{Counts: counts}
	return r, refused(m.Keep(c.Session, c.Seq, m.index, r))
}

// image is the machine's bytes.
func (m *machine) image() []byte {
	b := numbers(nil, m.index, m.term, len(m.voters))
	b = numbers(b, m.voters...)
	b = wire.Text(b, string(m.Store.Image()))
	return wire.Text(b, string(m.Table.Image()))
}

// load is the machine that bytes tell; an error, if they tell no store or no table.
func load(from *wire.Scan) (*machine, api.Errno) {
	m := &machine{index: from.Number(), term: from.Number(), voters: voters(from)}
	var e api.Errno
	if m.Store, e = store.Load(text(from)); e != api.OK {
		return nil, e
	}
	if m.Table, e = session.Load(text(from)); e != api.OK {
		return nil, e
	}
	return m, api.OK
}

// mayBe tells whether a machine's numbers may be, and go with one another.
func (m *machine) mayBe() bool {
	if m.index > api.MaxIndex || m.term > api.MaxIndex || (m.index == 0) != (m.term == 0) || !mayVote(m.voters) {
		return false
	}
	for _, s := range m.Seats() {
		if s.Session > m.index || s.At > m.index {
			return false
		}
	}
	return true
}

// clone is another one with the same.
func (m *machine) clone() *machine {
	return &machine{Store: m.Store.Clone(), Table: m.Table.Clone(), index: m.index, term: m.term, voters: slices.Clone(m.voters)}
}
