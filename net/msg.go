package net

import (
	"bytes"

	"spandrel/api"
	"spandrel/raft"
	"spandrel/wire"
)

// Put is a message as a record.
func Put(m api.Msg) ([]byte, api.Errno) {
	if e := raft.Check(m); e != api.OK {
		return nil, e
	}
	// What may be in a message is never too long for a record.
	return wire.Record(payload(m))
}

// Get is the message of which some bytes are the record.
func Get(b []byte) (api.Msg, api.Errno) {
	p, n, e := wire.Pick(b)
	switch {
	case e != api.OK:
		return api.Msg{}, e
	case n < len(b):
		return api.Msg{}, api.ErrMore
	}
	m := read(p)
	// A message has one form: what is put of it tells whether these are its bytes.
	if raft.Check(m) != api.OK || !bytes.Equal(payload(m), p) {
		return api.Msg{}, api.ErrMsg
	}
	return m, api.OK
}

// payload is all that a message has.
func payload(m api.Msg) []byte {
	b := numbers(nil, m.Kind, m.From, m.To, m.Term, m.Index, m.LogTerm, m.Commit, m.Round)
	b = wire.Flag(wire.Flag(b, m.Yes), m.Done)
	b = wire.Number(b, len(m.Entries))
	for _, e := range m.Entries {
		b = wire.Text(wire.Number(b, e.Term), string(e.Data))
	}
	b = numbers(wire.Number(b, len(m.Voters)), m.Voters...)
	return wire.Text(b, string(m.Data))
}

// numbers puts numbers behind bytes.
func numbers(b []byte, l ...int) []byte {
	for _, n := range l {
		b = wire.Number(b, n)
	}
	return b
}

// read is what a payload says, as far as it says something.
func read(p []byte) api.Msg {
	from := wire.Over(p)
	m := api.Msg{
		Kind: from.Number(), From: from.Number(), To: from.Number(), Term: from.Number(),
		Index: from.Number(), LogTerm: from.Number(), Commit: from.Number(), Round: from.Number(),
		Yes: from.Flag(), Done: from.Flag(),
	}
	// No more is read than there may be: of what says more, other bytes would be put.
	for range min(from.Number(), api.MaxEntries) {
		m.Entries = append(m.Entries, api.Entry{Index: m.Index + 1 + len(m.Entries), Term: from.Number(), Data: text(from)})
	}
	for range min(from.Number(), api.MaxNodes) {
		m.Voters = append(m.Voters, from.Number())
	}
	m.Data = text(from)
	return m
}

// text is the bytes of the text that comes next; nil, if there are none.
func text(from *wire.Scan) []byte { return append([]byte(nil), from.Text(from.Left())...) }
