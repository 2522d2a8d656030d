package ledger

import (
	"spandrel/api"
)

// end is that from which further entries go on: the last one, or the base.
func (l *Ledger) end() base {
	if len(l.entries) == 0 {
		return l.base
	}
	return endOf(l.entries[len(l.entries)-1])
}

// has tells whether there is an entry of an index.
func (l *Ledger) has(index int) bool { return index > l.index && index <= l.end().index }

// place is where among the entries that of an index stands.
func (l *Ledger) place(index int) int { return index - l.index - 1 }

// agrees tells whether the base or an entry has that index, and that term.
func (l *Ledger) agrees(b base) bool {
	term, there := l.Term(b.index)
	return there && term == b.term
}

// meets tells whether others' entries, behind an index and a term, may be held against these.
func (l *Ledger) meets(from base, more []api.Entry) bool {
	return from.mayGoOn(more) && (from.index < l.index || l.agrees(from))
}

// passes tells whether another's entry brings nothing.
func (l *Ledger) passes(e api.Entry) bool { return e.Index <= l.index || l.agrees(endOf(e)) }
