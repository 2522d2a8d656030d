package vault

import (
	"bytes"
	"iter"
	"slices"
	"strconv"

	"spandrel/api"
	"spandrel/wire"
)

const (
	// prefix begins the names of all of a vault's files.
	prefix = "snap."
	// unnamed is the file of a state that is being written.
	unnamed = prefix + "new"
	// ahead is a 1 with thirteen noughts: put to an index, it brings the noughts ahead of that one's digits.
	ahead = 10_000_000_000_000
)

// state is one that may be kept; of Index 0 it is none.
type state struct{ snap api.Snap }

// there tells whether it is one.
func (s *state) there() bool { return s.snap.Index > 0 }

// file is its file's name; empty: it has none.
func (s *state) file() string {
	if !s.there() {
		return ""
	}
	return prefix + strconv.Itoa(ahead + s.snap.Index)[1:]
}

// records goes through the records of its file: what it is, then its data in pieces.
func (s *state) records() iter.Seq[[]byte] {
	return func(yield func([]byte) bool) {
		if !yield(record(s.head())) {
			return
		}
		for piece := range slices.Chunk(s.snap.Data, api.Chunk) {
			if !yield(record(piece)) {
				return
			}
		}
	}
}

// head is what its first record says.
func (s *state) head() []byte {
	var p []byte
	for _, n := range []int{s.snap.Index, s.snap.Term, len(s.snap.Voters)} {
		p = wire.Number(p, n)
	}
	for _, n := range s.snap.Voters {
		p = wire.Number(p, n)
	}
	return wire.Number(p, len(s.snap.Data))
}

// record is a payload as a record. A state's payloads are never too long for one.
func record(p []byte) []byte {
	b, _ := wire.Record(p)
	return b
}

// stateOf is the state of which a file has all bytes and no others, and whether there is one.
func stateOf(name string, b []byte) (state, bool) {
	rows, _ := wire.Rows(b)
	if len(rows) == 0 {
		return state{}, false
	}
	s := state{snap: snapOf(rows[0], rows[1:])}
	if Check(s.snap) != api.OK || s.file() != name {
		return state{}, false
	}
	// A state has one form: what is written of it tells whether these are its bytes.
	all := slices.Collect(s.records())
	return s, bytes.Equal(wire.Join(all...), b)
}

// snapOf is what a head and pieces say, as far as they say something.
func snapOf(head []byte, pieces [][]byte) api.Snap {
	from := wire.Over(head)
	s := api.Snap{Index: from.Number(), Term: from.Number()}
	for range min(from.Number(), api.MaxNodes) {
		s.Voters = append(s.Voters, from.Number())
	}
	s.Data = wire.Join(pieces...)
	return s
}

// own is a state with lists of its own; data without bytes is nil, wherever it comes from.
func own(s api.Snap) api.Snap {
	s.Voters = slices.Clone(s.Voters)
	s.Data = append([]byte(nil), s.Data...)
	return s
}
