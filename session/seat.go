package session

import (
	"spandrel/api"
	"spandrel/wire"
)

// most is the greatest number that a session may have anywhere.
const most = 1 << 40

// Check tells whether a reply may be kept.
func Check(r api.Reply) api.Errno {
	if mayTell(api.Seat{Reply: r}) {
		return api.OK
	}
	return api.ErrArg
}

// mayStand tells whether a session may be in a table.
func mayStand(s api.Seat) bool { return mayCount(s.Session) && mayCount(s.At) && mayTell(s) }

// mayCount tells whether a number may be an entry's, and so a session's.
func mayCount(n int) bool { return 1 <= n && n <= api.MaxIndex }

// mayTell tells whether none of a session's numbers is out of its range.
func mayTell(s api.Seat) bool {
	for _, n := range numbers(s) {
		if n < 0 || n > most {
			return false
		}
	}
	return true
}

// numbers is all numbers of a session, in the order of its bytes.
func numbers(s api.Seat) []int {
	r, c := s.Reply, s.Reply.Counts
	return []int{s.Session, s.Seq, s.At, int(r.Err), r.Session, r.Gone, c.Added, c.Same, c.Other, c.Cycle, c.Full}
}

// bytesOf is one session's bytes.
func bytesOf(s api.Seat) []byte {
	var b []byte
	for _, n := range numbers(s) {
		b = wire.Number(b, n)
	}
	return b
}

// next is the session whose bytes come next.
func next(from *wire.Scan) api.Seat {
	s := api.Seat{Session: from.Number(), Seq: from.Number(), At: from.Number()}
	s.Reply = api.Reply{Err: api.Errno(from.Number()), Session: from.Number(), Gone: from.Number()}
	s.Reply.Counts = api.Counts{
		Added: from.Number(),
		Same:  from.Number(),
		Other: from.Number(),
		Cycle: from.Number(),
		Full:  from.Number(),
	}
	return s
}
