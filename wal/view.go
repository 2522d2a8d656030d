package wal

import (
	"slices"

	"spandrel/api"
	"spandrel/wire"
)

// view is what records say, one behind the other.
type view struct {
	hard    api.Hard
	index   int // the base's
	term    int // the base's
	entries []api.Entry
}

// lastIndex is the last entry's index, or the base's.
func (v *view) lastIndex() int { return v.index + len(v.entries) }

// has tells whether the entry with an index is there.
func (v *view) has(index int) bool { return index > v.index && index <= v.lastIndex() }

// take does what a payload says, unless that is of another kind or does not fit: whether it did.
func (v *view) take(p []byte) bool {
	s := wire.Over(p)
	switch s.Number() {
	case kindHard:
		return v.takeHard(s)
	case kindEntry:
		return v.takeEntry(s)
	case kindCut:
		return v.takeCut(s)
	}
	return false
}

// takeHard takes a term and a vote.
func (v *view) takeHard(s *wire.Scan) bool {
	h := api.Hard{Term: s.Number(), Vote: s.Number()}
	if s.End() != api.OK || !hardMayBe(h) {
		return false
	}
	v.hard = h
	return true
}

// takeEntry takes one more entry.
func (v *view) takeEntry(s *wire.Scan) bool {
	e := api.Entry{Index: s.Number(), Term: s.Number()}
	e.Data = append(e.Data, s.Text(api.MaxData)...)
	if s.End() != api.OK || !mayFollow(v.lastIndex(), e) {
		return false
	}
	v.entries = append(v.entries, e)
	return true
}

// takeCut lets the entries from an index on go. Their room is cut off too, so that what they had isn't held behind the end of those that stay.
func (v *view) takeCut(s *wire.Scan) bool {
	from := s.Number()
	if s.End() != api.OK || !v.has(from) {
		return false
	}
	stay := from - v.index - 1
	v.entries = v.entries[:stay:stay]
	return true
}

// takeAll takes the records with which bytes begin, as long as they fit: how many bytes these have.
func (v *view) takeAll(b []byte) int {
	at := 0
	for {
		p, n, e := wire.Pick(b[at:])
		if e != api.OK || !v.take(p) {
			return at
		}
		at += n
	}
}

// payloads says all that a view has to one that has nothing.
func (v *view) payloads() [][]byte {
	l := [][]byte{basePayload(v.index, v.term), hardPayload(v.hard)}
	for _, e := range v.entries {
		l = append(l, entryPayload(e))
	}
	return append(l, wholePayload())
}

// rebased is a view with a base that is not below its own, and the entries behind that, if it goes on from there.
func (v *view) rebased(index, term int) view {
	next := view{hard: v.hard, index: index, term: term}
	if v.agrees(index, term) {
		next.entries = slices.Clone(v.entries[index-v.index:])
	}
	return next
}

// agrees tells whether the base or the entry with an index is there, and has a term.
func (v *view) agrees(index, term int) bool {
	if index == v.index {
		return term == v.term
	}
	return v.has(index) && v.entries[index-v.index-1].Term == term
}

// based is a view that has nothing but the base that a payload says, and whether it says one.
func based(p []byte) (view, bool) {
	s := wire.Over(p)
	kind := s.Number()
	v := view{index: s.Number(), term: s.Number()}
	if kind != kindBase || s.End() != api.OK || !inRange(v.index) || !inRange(v.term) {
		return view{}, false
	}
	return v, true
}

// alone is what a segment says that stands alone, up to where it is whole, and how many bytes that is; 0: it does not.
func alone(b []byte) (view, int) {
	base, at, _ := wire.Pick(b)
	v, ok := based(base)
	if !ok {
		return view{}, 0
	}
	at += v.takeAll(b[at:])
	whole, n, _ := wire.Pick(b[at:])
	if !isWhole(whole) {
		return view{}, 0
	}
	return v, at + n
}

// inRange tells whether a number may be a base's index, or a term.
func inRange(n int) bool { return 0 <= n && n <= api.MaxIndex }

// hardMayBe tells whether a term and a vote may be kept.
func hardMayBe(h api.Hard) bool {
	return inRange(h.Term) && 0 <= h.Vote && h.Vote <= api.MaxNodes
}

// mayFollow tells whether an entry may stand behind an index.
func mayFollow(index int, e api.Entry) bool {
	return e.Index == index+1 && inRange(e.Index) && e.Term > 0 && inRange(e.Term) && len(e.Data) <= api.MaxData
}
