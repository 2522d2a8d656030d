package machine

import (
	"bytes"

	"spandrel/api"
	"spandrel/span"
	"spandrel/vault"
	"spandrel/wire"
)

// most is the greatest number of a session, of what it counts, of an entry at which it rested, and of a span's end.
const most = 1 << 40

// Check tells whether a command may be.
func Check(c api.Command) api.Errno {
	may := false
	switch c.Kind {
	case api.CNone, api.COpen:
		may = true
	case api.CIngest:
		may = between(1, c.Session, most) && between(1, c.Seq, most) && mayIngest(c.Spans)
	case api.CExpire:
		may = between(0, c.At, most)
	case api.CRetain:
		// All spans end below this bound, so that all traces may go.
		may = between(0, c.At, most+1)
	case api.CRoster:
		may = mayVote(c.Voters)
	}
	if !may || !like(c, fieldsOf(c)) {
		return api.ErrCommand
	}
	return api.OK
}

// between tells whether a number is neither below its lowest nor above its highest.
func between(lowest, n, highest int) bool { return lowest <= n && n <= highest }

// mayIngest tells whether spans may be put in at once.
func mayIngest(l []api.Span) bool {
	if !between(1, len(l), api.MaxBatch) {
		return false
	}
	for _, s := range l {
		if span.Check(s) != api.OK {
			return false
		}
	}
	return true
}

// mayVote tells whether nodes may be voters: those of a state that may be kept.
func mayVote(voters []int) bool {
	return vault.Check(api.Snap{Index: 1, Term: 1, Voters: voters}) == api.OK
}

// fieldsOf is a command with the fields alone that its kind has.
func fieldsOf(c api.Command) api.Command {
	own := api.Command{Kind: c.Kind}
	switch c.Kind {
	case api.CIngest:
		own.Session, own.Seq, own.Spans = c.Session, c.Seq, c.Spans
	case api.CExpire, api.CRetain:
		own.At = c.At
	case api.CRoster:
		own.Voters = c.Voters
	}
	return own
}

// like tells whether two commands have the same numbers, and as many spans and voters.
func like(a, b api.Command) bool {
	return a.Kind == b.Kind && a.Session == b.Session && a.Seq == b.Seq && a.At == b.At && len(a.Spans) == len(b.Spans) && len(a.Voters) == len(b.Voters)
}

// Put is a command as bytes.
func Put(c api.Command) ([]byte, api.Errno) {
	if e := Check(c); e != api.OK {
		return nil, e
	}
	b := wire.Number(nil, c.Kind)
	switch c.Kind {
	case api.CIngest:
		spans, _ := span.Put(c.Spans...)
		b = wire.Text(numbers(b, c.Session, c.Seq), string(spans))
	case api.CExpire, api.CRetain:
		b = numbers(b, c.At)
	case api.CRoster:
		b = numbers(numbers(b, len(c.Voters)), c.Voters...)
	}
	return b, api.OK
}

// numbers puts numbers behind bytes.
func numbers(b []byte, l ...int) []byte {
	for _, n := range l {
		b = wire.Number(b, n)
	}
	return b
}

// Get is the command of which some bytes are.
func Get(b []byte) (api.Command, api.Errno) {
	c := read(wire.Over(b))
	// A command has one form: what is put of it tells whether these are its bytes.
	if again, e := Put(c); e != api.OK || !bytes.Equal(again, b) {
		return api.Command{}, api.ErrCommand
	}
	return c, api.OK
}

// read is what bytes say of a command, as far as they say something.
func read(from *wire.Scan) api.Command {
	c := api.Command{Kind: from.Number()}
	switch c.Kind {
	case api.CIngest:
		c.Session, c.Seq = from.Number(), from.Number()
		c.Spans, _ = span.Get(text(from))
	case api.CExpire, api.CRetain:
		c.At = from.Number()
	case api.CRoster:
		c.Voters = voters(from)
	}
	return c
}

// voters is how many voters there are, and each: no more of them than there may be.
func voters(from *wire.Scan) []int {
	var l []int
	for range min(from.Number(), api.MaxNodes) {
		l = append(l, from.Number())
	}
	return l
}

// text is the bytes of the text that comes next.
func text(from *wire.Scan) []byte { return []byte(from.Text(from.Left())) }
