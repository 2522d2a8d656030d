package raft

import (
	"slices"

	"spandrel/api"
	"spandrel/machine"
)

// since is who votes, by the entry or the snapshot of an index.
type since struct {
	index  int
	voters []int
}

// rosters is all that a node's snapshot and its entries say of voters, by rising indices. The entries are not read again for each step, for they may be many.
type rosters []since

// with is these, and those of further entries behind them.
func (l rosters) with(more ...api.Entry) rosters {
	for _, e := range more {
		if c, err := machine.Get(e.Data); err == api.OK && c.Kind == api.CRoster {
			l = append(l, since{index: e.Index, voters: c.Voters})
		}
	}
	return l
}

// upTo is the last one that is not by an entry behind an index.
func (l rosters) upTo(index int) since {
	for _, s := range slices.Backward(l) {
		if s.index <= index {
			return s
		}
	}
	return since{}
}

// ahead is these, as far as they are by what stands ahead of an index.
func (l rosters) ahead(index int) rosters {
	return slices.DeleteFunc(l, func(s since) bool { return s.index >= index })
}

// behind is a snapshot's, and these, as far as they are by entries behind it, up to the last one.
func (l rosters) behind(s api.Snap, last int) rosters {
	rest := slices.DeleteFunc(l, func(other since) bool { return other.index <= s.Index || other.index > last })
	return slices.Insert(rest, 0, since{index: s.Index, voters: s.Voters})
}
