package audit

import (
	"bytes"
	"cmp"
	"slices"

	"spandrel/api"
	"spandrel/machine"
)

// moment is where a log has come to: its machine, the entry that was done last, and what that answered.
type moment struct {
	*machine.Machine // nil, if the voters can't be: it does nothing, and shows nothing
	entry            api.Entry
	reply            api.Reply
}

// replay does a log's entries, up to the first that is refused, and shows the moment ahead of all and the one behind each.
func replay(voters []int, log []api.Entry, see func(moment)) {
	m, _ := machine.New(voters...)
	see(moment{Machine: m})
	for _, x := range log {
		r, e := m.Apply(x)
		if e != api.OK {
			return
		}
		see(moment{m, x, r})
	}
}

// says tells whether a call of this moment's index is what was to be told.
func (now moment) says(c api.Call) bool {
	if c.C.Kind == api.CNone {
		return c.Reply == api.Reply{} && slices.Equal(c.Forest, now.Lookup(c.Trace))
	}
	// A command that can't be has no bytes, so that an entry without Data is not its.
	b, e := machine.Put(c.C)
	return e == api.OK && bytes.Equal(b, now.entry.Data) && c.Reply == now.reply && len(c.Forest) == 0
}

// explain tells of each call whether it is what a log says. The log is done once, however many calls there are.
func explain(voters []int, log []api.Entry, l ...api.Call) []bool {
	at := map[int][]int{} // places of calls, by their Index
	for place, c := range l {
		at[c.Index] = append(at[c.Index], place)
	}
	explained := make([]bool, len(l))
	replay(voters, log, func(now moment) {
		for _, place := range at[now.Index()] {
			explained[place] = now.says(l[place])
		}
	})
	return explained
}

// turn is a session, and what it counted.
type turn struct{ session, seq int }

// firsts answers where a call took effect first: an ingest that was tried again stands in a log more than once.
func firsts(log []api.Entry) func(api.Call) int {
	places := map[turn]int{}
	for i, x := range log {
		c, _ := machine.Get(x.Data)
		at := turn{c.Session, c.Seq}
		if c.Kind == api.CIngest && places[at] == 0 {
			places[at] = i + 1
		}
	}
	return func(c api.Call) int {
		place := places[turn{c.C.Session, c.C.Seq}]
		if c.C.Kind != api.CIngest || place == 0 {
			return c.Index
		}
		return place
	}
}

// end is when a call ended, and the greatest Index of those that had ended by then.
type end struct{ ended, index int }

// endsOf is the ends of all calls that ended, in their order.
func endsOf(l []api.Call) []end {
	var ends []end
	for _, c := range l {
		if c.Ended != 0 {
			ends = append(ends, end{c.Ended, c.Index})
		}
	}
	slices.SortFunc(ends, func(a, b end) int { return cmp.Compare(a.ended, b.ended) })
	for i := 1; i < len(ends); i++ {
		ends[i].index = max(ends[i].index, ends[i-1].index)
	}
	return ends
}

// outruns answers whether a call took effect too early for another one that had ended ahead of its beginning.
// A call that ended ahead of its own beginning may count as such another one: it can't be anyway.
func outruns(log []api.Entry, l []api.Call) func(api.Call) bool {
	ends, first := endsOf(l), firsts(log)
	return func(c api.Call) bool {
		n, _ := slices.BinarySearchFunc(ends, c.Began, func(x end, began int) int { return cmp.Compare(x.ended, began) })
		if n == 0 {
			return false
		}
		at, other := first(c), ends[n-1].index
		// A look stands behind the entry of its Index, all else at it.
		return at < other || at == other && c.C.Kind != api.CNone
	}
}
