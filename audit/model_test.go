package audit_test

import (
	"bytes"
	"math/rand"
	"slices"

	"spandrel/api"
	"spandrel/machine"
)

// The chapter's words, one by one, without a thought of how long they take.

// plainStates is the machine behind each beginning of a log; none, if the voters can't be.
func plainStates(voters []int, log []api.Entry) (l []*machine.Machine, replies []api.Reply) {
	m, e := machine.New(voters...)
	if e != api.OK {
		return []*machine.Machine{nil}, nil
	}
	l = append(l, m.Clone())
	for _, x := range log {
		r, e := m.Apply(x)
		if e != api.OK {
			break
		}
		l, replies = append(l, m.Clone()), append(replies, r)
	}
	return l, replies
}

func plainExplained(voters []int, log []api.Entry, c api.Call) bool {
	states, replies := plainStates(voters, log)
	if c.C.Kind == api.CNone {
		return c.Index >= 0 && c.Index <= len(replies) && c.Reply == api.Reply{} && slices.Equal(c.Forest, states[c.Index].Lookup(c.Trace))
	}
	if c.Index < 1 || c.Index > len(replies) {
		return false
	}
	b, e := machine.Put(c.C)
	return e == api.OK && bytes.Equal(b, log[c.Index-1].Data) && c.Reply == replies[c.Index-1] && len(c.Forest) == 0
}

func plainFirst(log []api.Entry, c api.Call) int {
	if c.C.Kind == api.CIngest {
		for i, x := range log {
			if o, e := machine.Get(x.Data); e == api.OK && o.Kind == api.CIngest && o.Session == c.C.Session && o.Seq == c.C.Seq {
				return i + 1
			}
		}
	}
	return c.Index
}

func plainCan(voters []int, log []api.Entry, l []api.Call, place int) bool {
	c := l[place]
	if c.Ended < c.Began || !plainExplained(voters, log, c) {
		return false
	}
	first := plainFirst(log, c)
	for i, o := range l {
		if i == place || o.Ended == 0 || o.Ended >= c.Began {
			continue
		}
		if first < o.Index || c.C.Kind != api.CNone && first == o.Index {
			return false
		}
	}
	return true
}

func plainLinear(voters []int, log []api.Entry, l []api.Call) int {
	for place, c := range l {
		if c.Ended != 0 && !plainCan(voters, log, l, place) {
			return place
		}
	}
	return -1
}

func plainSame(x, y api.Entry) bool {
	return x.Index == y.Index && x.Term == y.Term && string(x.Data) == string(y.Data)
}

// plainAt is what a view has of an index.
func plainAt(v api.View, index int) (api.Entry, bool) {
	for i, x := range v.Entries {
		if v.Index+1+i == index {
			return x, true
		}
	}
	return api.Entry{}, false
}

func plainWell(v api.View) bool {
	return v.Index >= 0 && v.Index <= most && v.Commit >= v.Index && v.Commit <= most && v.Commit <= v.Index+len(v.Entries)
}

func plainLook(l []api.View) (found []api.Finding) {
	for b, v := range l {
		if !plainWell(v) {
			found = append(found, api.Finding{Kind: api.FCommit, A: b, B: b})
		}
		for a, o := range l[:b] {
			if !plainWell(v) || !plainWell(o) {
				continue
			}
			entry, chosen := false, false
			for i, x := range v.Entries {
				index := v.Index + 1 + i
				y, there := plainAt(o, index)
				if !there || plainSame(x, y) {
					continue
				}
				entry = entry || x.Term == y.Term
				chosen = chosen || index <= v.Commit && index <= o.Commit
			}
			if v.Role == 2 && o.Role == 2 && v.Hard.Term == o.Hard.Term {
				found = append(found, api.Finding{Kind: api.FLeader, A: a, B: b})
			}
			if entry {
				found = append(found, api.Finding{Kind: api.FEntry, A: a, B: b})
			}
			if chosen {
				found = append(found, api.Finding{Kind: api.FChosen, A: a, B: b})
			}
		}
	}
	return found
}

// toldBy is a call drawn at random, of which a log tells what it came to.
func toldBy(r *rand.Rand, log []api.Entry) api.Call {
	states, replies := plainStates(three, log)
	c := api.Call{Client: r.Intn(4), Index: r.Intn(len(replies) + 1)}
	if c.Index > 0 {
		c.C, _ = machine.Get(log[c.Index-1].Data)
		c.Reply = replies[c.Index-1]
	}
	if c.C.Kind == api.CNone || r.Intn(3) == 0 {
		c.C, c.Reply, c.Trace = api.Command{}, api.Reply{}, 1+r.Intn(3)
		c.Forest = states[c.Index].Lookup(c.Trace)
	}
	return c
}

// spoil turns something of what a call was told.
func spoil(r *rand.Rand, c *api.Call, entries int) {
	switch r.Intn(9) {
	case 0:
		c.Index += r.Intn(3) - 1
	case 1:
		c.Index = r.Intn(entries+3) - 1
	case 2:
		c.Reply.Counts.Added++
	case 3:
		c.Reply.Err = api.Errno(80 * r.Intn(2))
	case 4:
		c.Reply.Session, c.Reply.Gone = r.Intn(4), r.Intn(2)
	case 5:
		c.Forest = append(c.Forest, branches(span(20))...)
	case 6:
		c.Forest = nil
	case 7:
		c.C.Session++
	case 8:
		c.C = some(r, 3)
	}
}
