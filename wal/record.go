package wal

import (
	"bytes"

	"spandrel/api"
	"spandrel/wire"
)

// Kinds of records: the number with which a record's payload begins.
const (
	kindHard = iota + 1
	kindEntry
	kindCut
	kindBase
	kindWhole
)

// numbers is a payload that has nothing but numbers.
func numbers(l ...int) []byte {
	var p []byte
	for _, n := range l {
		p = wire.Number(p, n)
	}
	return p
}

// hardPayload says a term and a vote.
func hardPayload(h api.Hard) []byte { return numbers(kindHard, h.Term, h.Vote) }

// entryPayload says one more entry.
func entryPayload(e api.Entry) []byte {
	return wire.Text(numbers(kindEntry, e.Index, e.Term), string(e.Data))
}

// cutPayload says that the entries from an index on are no more.
func cutPayload(from int) []byte { return numbers(kindCut, from) }

// basePayload says that there is nothing but a base.
func basePayload(index, term int) []byte { return numbers(kindBase, index, term) }

// wholePayload says that what a base began is whole.
func wholePayload() []byte { return numbers(kindWhole) }

// isWhole tells whether a payload says that; it has one form.
func isWhole(p []byte) bool { return bytes.Equal(p, wholePayload()) }

// records is payloads as records, one behind the other. A log's payloads are never too long for one.
func records(payloads ...[]byte) []byte {
	var parts [][]byte
	for _, p := range payloads {
		b, _ := wire.Record(p)
		parts = append(parts, b)
	}
	return wire.Join(parts...)
}
