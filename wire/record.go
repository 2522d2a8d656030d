package wire

import (
	"bytes"

	"spandrel/api"
)

// head is the byte with which each record begins.
const head = 0x5d

// tail is a sum's bytes, the highest one first.
type tail [4]byte

// Record is a payload as a record.
func Record(p []byte) ([]byte, api.Errno) {
	if len(p) > api.MaxFrame {
		return nil, api.ErrLong
	}
	front := Number([]byte{head}, len(p))
	sum := tailOf(Sum(front, p))
	return Join(front, p, sum[:]), api.OK
}

// Pick is the payload of the record with which bytes begin, and how many that has.
func Pick(b []byte) ([]byte, int, api.Errno) {
	if len(b) == 0 {
		return nil, 0, api.ErrShort
	}
	if b[0] != head {
		return nil, 0, api.ErrForm
	}
	s := strip{b: b, at: 1}
	n, e := s.number()
	if e != api.OK {
		return nil, 0, e
	}
	if n > api.MaxFrame {
		return nil, 0, api.ErrLong
	}
	if s.left() < n+len(tail{}) {
		return nil, 0, api.ErrShort
	}
	end := s.at + n
	if tailAt(b[end:]) != tailOf(Sum(b[:end])) {
		return nil, 0, api.ErrSum
	}
	return bytes.Clone(b[s.at:end]), end + len(tail{}), api.OK
}

// Rows is the payloads of all records with which bytes begin, and how many bytes these have.
func Rows(b []byte) ([][]byte, int) {
	var rows [][]byte
	at := 0
	for {
		p, n, e := Pick(b[at:])
		if e != api.OK {
			return rows, at
		}
		rows = append(rows, p)
		at += n
	}
}

// tailOf is a sum as a record has it.
func tailOf(c uint32) tail {
	var t tail
	for i := range len(t) {
		t[i] = byte(c >> (24 - 8*i))
	}
	return t
}

// tailAt is the tail with which bytes begin.
func tailAt(b []byte) tail {
	var t tail
	copy(t[:], b)
	return t
}
