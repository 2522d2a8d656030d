package raft

import (
	"spandrel/api"
	"spandrel/ledger"
	"spandrel/roster"
)

// Check tells whether a message may be.
func Check(m api.Msg) api.Errno {
	if mayGo(m) && mayCount(m) && mayCarry(m) {
		return api.OK
	}
	return api.ErrMsg
}

// mayGo tells whether a message may go from one node to another one.
func mayGo(m api.Msg) bool { return isNode(m.From) && isNode(m.To) && m.From != m.To }

// mayCount tells whether a message's numbers may be.
func mayCount(m api.Msg) bool {
	for _, n := range []int{m.Term, m.Index, m.LogTerm, m.Commit, m.Round} {
		if n < 0 || n > api.MaxIndex {
			return false
		}
	}
	return m.Term > 0
}

// mayCarry tells whether a message may have what it has, by its kind.
func mayCarry(m api.Msg) bool {
	switch m.Kind {
	case api.MVote, api.MVoted, api.MAppended, api.MInstalled:
		return len(m.Entries) == 0 && len(m.Voters) == 0 && len(m.Data) == 0
	case api.MAppend:
		return len(m.Voters) == 0 && len(m.Data) == 0 && mayAppend(m)
	case api.MInstall:
		return len(m.Entries) == 0 && mayInstall(m)
	}
	return false
}

// mayAppend tells whether a message's entries go on from its Index and LogTerm, none of them of a term above its own.
func mayAppend(m api.Msg) bool {
	if len(m.Entries) > api.MaxEntries {
		return false
	}
	l, e := ledger.New(m.Index, m.LogTerm, m.Entries...)
	if e != api.OK {
		return false
	}
	// Terms do not fall, so that the last one is the greatest.
	_, term := l.Last()
	return term <= m.Term
}

// mayInstall tells whether a message may be a piece of a snapshot.
func mayInstall(m api.Msg) bool {
	return m.Index > 0 && 0 < m.LogTerm && m.LogTerm <= m.Term && roster.Check(m.Voters...) == api.OK && len(m.Data) <= api.Chunk
}
