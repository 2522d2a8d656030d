package audit

import (
	"bytes"

	"spandrel/api"
)

// mayBe tells whether a view has all that it calls committed.
func mayBe(v api.View) bool {
	return 0 <= v.Index && v.Index <= api.MaxIndex && v.Index <= v.Commit && v.Commit <= min(api.MaxIndex, v.Index+len(v.Entries))
}

// same tells whether two entries are.
func same(x, y api.Entry) bool {
	return x.Index == y.Index && x.Term == y.Term && bytes.Equal(x.Data, y.Data)
}

// question is what is asked of the entries that two views have of one index.
type question func(index int, x, y api.Entry) bool

// meet tells whether a question holds of some index of which two views have entries, the one behind the base being the first.
func meet(a, b api.View, asks question) bool {
	last := min(a.Index+len(a.Entries), b.Index+len(b.Entries))
	for index := max(a.Index, b.Index) + 1; index <= last; index++ {
		if asks(index, a.Entries[index-a.Index-1], b.Entries[index-b.Index-1]) {
			return true
		}
	}
	return false
}

// clashes is the kinds of what is wrong with two views that may be.
func clashes(a, b api.View) []int {
	chosen := min(a.Commit, b.Commit)
	unlikeInTerm := func(_ int, x, y api.Entry) bool { return x.Term == y.Term && !same(x, y) }
	unlikeChosen := func(index int, x, y api.Entry) bool { return index <= chosen && !same(x, y) }
	var kinds []int
	if a.Role == api.Leader && b.Role == api.Leader && a.Hard.Term == b.Hard.Term {
		kinds = append(kinds, api.FLeader)
	}
	if meet(a, b, unlikeInTerm) {
		kinds = append(kinds, api.FEntry)
	}
	if meet(a, b, unlikeChosen) {
		kinds = append(kinds, api.FChosen)
	}
	return kinds
}
