package ledger

import (
	"spandrel/api"
)

// base is an index and a term, from which entries go on.
type base struct {
	index int
	term  int
}

// mayBe tells whether it can be a ledger's: without both, or with both.
func (b base) mayBe() bool {
	return b == base{} || mayCount(b.index) && mayCount(b.term)
}

// mayGoOn tells whether entries go on from it.
func (b base) mayGoOn(l []api.Entry) bool {
	for _, e := range l {
		if !b.mayFollow(e) {
			return false
		}
		b = endOf(e)
	}
	return true
}

// mayFollow tells whether an entry goes on from it.
func (b base) mayFollow(e api.Entry) bool {
	return e.Index == b.index+1 && e.Index <= api.MaxIndex && e.Term >= b.term && mayCount(e.Term) && len(e.Data) <= api.MaxData
}

// endOf is that from which the entries behind one go on.
func endOf(e api.Entry) base { return base{index: e.Index, term: e.Term} }

// mayCount tells whether a number may be a term, or a base's index.
func mayCount(n int) bool { return 0 < n && n <= api.MaxIndex }

// own is entries with bytes of their own; data without bytes is nil, wherever it comes from.
func own(l []api.Entry) []api.Entry {
	var all []api.Entry
	for _, e := range l {
		e.Data = append([]byte(nil), e.Data...)
		all = append(all, e)
	}
	return all
}
