package raft_test

import (
	"bytes"
	"fmt"
	"math"
	"slices"
	"testing"

	"spandrel/api"
	"spandrel/machine"
	"spandrel/raft"
)

// most is the greatest index and the greatest term.
const most = 1 << 40

// bytesOf is a command's bytes.
func bytesOf(c api.Command) []byte {
	b, e := machine.Put(c)
	if e != api.OK {
		panic(e)
	}
	return b
}

// Commands as bytes: of one who begins to lead, of a client, of other voters.
func none() []byte            { return bytesOf(api.Command{}) }
func open() []byte            { return bytesOf(api.Command{Kind: api.COpen}) }
func retain(at int) []byte    { return bytesOf(api.Command{Kind: api.CRetain, At: at}) }
func votes(l ...int) []byte   { return bytesOf(api.Command{Kind: api.CRoster, Voters: l}) }
func first(l ...int) api.Snap { return api.Snap{Voters: l} }

// row is entries from an index on, of these terms; each has bytes of its own.
func row(from int, terms ...int) []api.Entry {
	var l []api.Entry
	for i, term := range terms {
		l = append(l, api.Entry{Index: from + i, Term: term, Data: retain(int(uint(1000*term+from+i) % most))})
	}
	return l
}

// with is entries, and one more of a term with that data.
func with(l []api.Entry, index, term int, data []byte) []api.Entry {
	return append(slices.Clone(l), api.Entry{Index: index, Term: term, Data: data})
}

// data is so many bytes, of which few stand in a row.
func data(n int) []byte {
	b := make([]byte, n)
	for i := range b {
		b[i] = byte(i*7 + i>>8)
	}
	return b
}

// snap is a snapshot with data of so many bytes.
func snap(index, term, size int, voters ...int) api.Snap {
	return api.Snap{Index: index, Term: term, Voters: voters, Data: data(size)}
}

// made is the node of a hard state, a snapshot and entries.
func made(t *testing.T, id int, h api.Hard, s api.Snap, l []api.Entry, timeout int) *raft.Raft {
	t.Helper()
	r, e := raft.New(id, h, s, l, timeout)
	if e != api.OK || r == nil {
		t.Fatal(e)
	}
	return r
}

// told is an output in words: two that are the same have the same.
func told(o api.Output) string {
	s := fmt.Sprint("error ", int(o.Err), " index ", o.Index, " cut ", o.Cut, " entries ", o.Entries, " apply ", o.Apply, " reads ", o.Reads)
	if o.Hard != nil {
		s += fmt.Sprint(" hard ", *o.Hard)
	}
	if o.Snap != nil {
		s += fmt.Sprint(" snap ", *o.Snap)
	}
	for _, m := range o.Send {
		s += fmt.Sprintf("\n send %+v", m)
	}
	return s
}

// step fails unless an input comes to just that; from who answers it comes with From and Term of the node.
func step(t *testing.T, r *raft.Raft, in api.Input, right api.Output) {
	t.Helper()
	v := r.View()
	o := r.Step(in)
	after := r.View()
	right.Send = slices.Clone(right.Send)
	for i := range right.Send {
		right.Send[i].From, right.Send[i].Term = v.ID, after.Hard.Term
	}
	if told(o) != told(right) {
		t.Fatalf("%s\nnot\n%s", told(o), told(right))
	}
}

// refused fails unless an input has just that error, and has changed nothing that the node tells.
func refused(t *testing.T, r *raft.Raft, in api.Input, e api.Errno) {
	t.Helper()
	was := r.View()
	step(t, r, in, api.Output{Err: e})
	is(t, r, was)
}

// numbers is all that a view tells but its lists.
func numbers(v api.View) [8]int {
	return [...]int{v.ID, v.Role, v.Leader, v.Hard.Term, v.Hard.Vote, v.Commit, v.Index, v.Term}
}

// sameEntries tells whether entries are the same.
func sameEntries(a, b []api.Entry) bool {
	return slices.EqualFunc(a, b, func(x, y api.Entry) bool {
		return x.Index == y.Index && x.Term == y.Term && bytes.Equal(x.Data, y.Data)
	})
}

// is fails unless a node tells just that of itself.
func is(t *testing.T, r *raft.Raft, right api.View) {
	t.Helper()
	v := r.View()
	if numbers(v) != numbers(right) || !slices.Equal(v.Voters, right.Voters) || !sameEntries(v.Entries, right.Entries) {
		t.Fatalf("%+v\nnot\n%+v", v, right)
	}
}

// tick is an input of time that passes, hear one of a message.
func tick(timeout int) api.Input { return api.Input{Kind: api.ITick, Timeout: timeout} }
func hear(m api.Msg) api.Input   { return api.Input{Kind: api.IMsg, Msg: m} }

// hard is a hard state, as an output has it.
func hard(term, vote int) *api.Hard { return &api.Hard{Term: term, Vote: vote} }

// leader is node 0 as it leads in the Term 3: behind a base, entries of the Term 2 up to last, and its own first one; its voters are those of the snapshot.
func leader(t *testing.T, s api.Snap, last int) *raft.Raft {
	t.Helper()
	terms := slices.Repeat([]int{2}, last-s.Index)
	r := made(t, 0, api.Hard{Term: 2}, s, row(s.Index+1, terms...), 1)
	r.Step(tick(100))
	for _, n := range s.Voters {
		if n != 0 && r.View().Role != api.Leader {
			r.Step(hear(api.Msg{Kind: api.MVoted, From: n, Term: 3, Yes: true}))
		}
	}
	if v := r.View(); v.Role != api.Leader || v.Hard != (api.Hard{Term: 3, Vote: 1}) || len(v.Entries) != last-s.Index+1 {
		t.Fatal(v)
	}
	return r
}

// has is a message by which a node tells node 0, in the Term 3, that it has all entries up to an index, and has answered a round.
func has(from, index, round int) api.Input {
	return hear(api.Msg{Kind: api.MAppended, From: from, Term: 3, Index: index, Round: round, Yes: true})
}

// The chapter's example.
func TestExample(t *testing.T) {
	r := made(t, 0, api.Hard{}, first(0), nil, 1)
	one := api.Entry{Index: 1, Term: 1, Data: none()}
	step(t, r, tick(1), api.Output{Hard: hard(1, 1), Entries: []api.Entry{one}, Apply: []api.Entry{one}})
	is(t, r, api.View{Role: api.Leader, Leader: 1, Hard: api.Hard{Term: 1, Vote: 1}, Commit: 1, Voters: []int{0}, Entries: []api.Entry{one}})

	r = made(t, 0, api.Hard{}, first(0, 1, 2), nil, 1)
	step(t, r, tick(1), api.Output{Hard: hard(1, 1), Send: []api.Msg{{Kind: api.MVote, To: 1}, {Kind: api.MVote, To: 2}}})
	is(t, r, api.View{Role: api.Candidate, Hard: api.Hard{Term: 1, Vote: 1}, Voters: []int{0, 1, 2}})
	step(t, r, hear(api.Msg{Kind: api.MVoted, From: 1, Term: 1, Yes: true}), api.Output{Entries: []api.Entry{one}, Send: []api.Msg{
		{Kind: api.MAppend, To: 1, Entries: []api.Entry{one}}, {Kind: api.MAppend, To: 2, Entries: []api.Entry{one}},
	}})
	step(t, r, hear(api.Msg{Kind: api.MAppended, From: 2, Term: 1, Index: 1, Yes: true}), api.Output{Apply: []api.Entry{one}})
	is(t, r, api.View{Role: api.Leader, Leader: 1, Hard: api.Hard{Term: 1, Vote: 1}, Commit: 1, Voters: []int{0, 1, 2}, Entries: []api.Entry{one}})
}

// P12.1: which numbers and hard states may be.
func TestNewNumbers(t *testing.T) {
	for id := range api.MaxNodes {
		is(t, made(t, id, api.Hard{}, first(3), nil, 1), api.View{ID: id, Voters: []int{3}})
	}
	for _, h := range []api.Hard{{}, {Term: 1}, {Term: most, Vote: 7}, {Vote: 7}, {Term: 5, Vote: 1}} {
		is(t, made(t, 2, h, first(0, 6), nil, 1), api.View{ID: 2, Hard: h, Voters: []int{0, 6}})
	}
	for _, id := range []int{-1, 7, math.MinInt, math.MaxInt} {
		unmade(t, id, api.Hard{}, first(0), nil, api.ErrArg)
		unmade(t, id, api.Hard{}, first(), row(2, 1), api.ErrArg)
	}
	for _, h := range []api.Hard{{Term: -1}, {Term: most + 1}, {Term: math.MinInt}, {Term: math.MaxInt}, {Vote: -1}, {Vote: 8}, {Term: 1, Vote: math.MaxInt}, {Term: 1, Vote: math.MinInt}} {
		unmade(t, 0, h, first(0), nil, api.ErrArg)
		unmade(t, 0, h, first(), row(2, 1), api.ErrArg)
	}
}

// unmade fails unless there is no such node, for that reason.
func unmade(t *testing.T, id int, h api.Hard, s api.Snap, l []api.Entry, right api.Errno) {
	t.Helper()
	if r, e := raft.New(id, h, s, l, 1); r != nil || e != right {
		t.Fatal(id, h, s.Index, s.Term, s.Voters, l, "is", e, "not", right)
	}
}

// P12.1: which snapshots may be, of Index 0 and of others; the reason stands ahead of the entries'.
func TestNewSnap(t *testing.T) {
	h := api.Hard{Term: most}
	for _, voters := range [][]int{nil, {}, {-1}, {7}, {1, 0}, {2, 2}, {0, 1, 2, 3, 4, 5, 6, 7}} {
		for _, s := range []api.Snap{first(voters...), snap(3, 2, 5, voters...), snap(3, 2, api.MaxImage+1, voters...)} {
			unmade(t, 0, h, s, nil, api.ErrVault)
			unmade(t, 0, h, s, row(9, 1), api.ErrVault)
		}
	}
	for _, s := range []api.Snap{snap(-1, 1, 0, 0), snap(math.MinInt, 1, 0, 0), snap(most+1, 1, 0, 0), snap(1, 0, 0, 0), snap(1, -1, 0, 0), snap(1, most+1, 0, 0)} {
		unmade(t, 0, h, s, row(9, 1), api.ErrVault)
	}
	unmade(t, 0, h, snap(3, 2, api.MaxImage+1, 0), row(9, 1), api.ErrLong)
	for _, s := range []api.Snap{snap(1, 1, 0, 0), snap(most, most, 700, 1, 4), snap(3, 2, api.MaxImage, 6)} {
		is(t, made(t, 1, h, s, nil, 1), api.View{ID: 1, Hard: h, Commit: s.Index, Index: s.Index, Term: s.Term, Voters: s.Voters})
	}
	// Of Index 0 nothing but the voters is asked for, and nothing else is kept.
	s := snap(0, 0, api.MaxImage+1, 0, 2)
	is(t, made(t, 1, h, s, nil, 1), api.View{ID: 1, Hard: h, Voters: []int{0, 2}})
	unmade(t, 1, h, snap(0, 1, 0, 0), nil, api.ErrLedger)
	unmade(t, 1, h, snap(0, -1, 0, 0), nil, api.ErrLedger)
}

// P12.1: which entries may be, and that none is of a term above the node's.
func TestNewEntries(t *testing.T) {
	l := row(4, 2, 2, 5)
	h := api.Hard{Term: 5, Vote: 2}
	is(t, made(t, 1, h, snap(3, 2, 9, 0, 1), l, 1), api.View{ID: 1, Hard: h, Commit: 3, Index: 3, Term: 2, Voters: []int{0, 1}, Entries: l})
	unmade(t, 1, api.Hard{Term: 4}, snap(3, 2, 9, 0, 1), l, api.ErrArg)
	unmade(t, 1, api.Hard{Term: 1}, snap(3, 2, 9, 0, 1), nil, api.ErrArg)
	unmade(t, 1, api.Hard{}, first(0, 1), row(1, 1), api.ErrArg)
	made(t, 1, api.Hard{Term: 2}, snap(3, 2, 9, 0, 1), nil, 1)
	for _, l := range [][]api.Entry{row(5, 2), row(3, 2), row(4, 1), row(4, 2, 5, 4), {{Index: 4, Term: 2, Data: data(api.MaxData + 1)}}, row(4, most+1)} {
		unmade(t, 1, api.Hard{Term: 2}, snap(3, 2, 9, 0, 1), l, api.ErrLedger)
	}
	is(t, made(t, 1, api.Hard{Term: most}, snap(most-1, most, 0, 1), row(most, most), 1), api.View{
		ID: 1, Hard: api.Hard{Term: most}, Commit: most - 1, Index: most - 1, Term: most, Voters: []int{1}, Entries: row(most, most),
	})
}

// P12.1: its voters are those of the last entry that tells voters, committed or not, else the snapshot's.
func TestNewVoters(t *testing.T) {
	s := snap(3, 1, 0, 0, 1, 2)
	for _, x := range []struct {
		l      []api.Entry
		voters []int
	}{
		{nil, []int{0, 1, 2}},
		{row(4, 1, 1), []int{0, 1, 2}},
		{with(row(4, 1), 5, 1, votes(0, 1)), []int{0, 1}},
		{with(with(with(row(4, 1), 5, 1, votes(0, 1)), 6, 1, votes(0, 1, 5)), 7, 1, open()), []int{0, 1, 5}},
		{with(nil, 4, 1, append(votes(0, 1), 0)), []int{0, 1, 2}},
		{with(nil, 4, 1, []byte{5, 2, 1, 0}), []int{0, 1, 2}},
		{with(nil, 4, 1, nil), []int{0, 1, 2}},
	} {
		is(t, made(t, 0, api.Hard{Term: 1}, s, x.l, 1), api.View{Hard: api.Hard{Term: 1}, Commit: 3, Index: 3, Term: 1, Voters: x.voters, Entries: x.l})
	}
}

// P12.1, P12.3: a timeout is brought into 1 to 1000, that of New and that of each next one.
func TestTimeouts(t *testing.T) {
	for _, x := range [][2]int{{1, 1}, {2, 2}, {7, 7}, {1000, 1000}, {0, 1}, {-1, 1}, {math.MinInt, 1}, {1001, 1000}, {math.MaxInt, 1000}} {
		r := made(t, 0, api.Hard{}, first(0, 1), nil, x[0])
		for term := 1; term < 4; term++ {
			for range x[1] - 1 {
				step(t, r, tick(5), api.Output{})
			}
			step(t, r, tick(x[0]), api.Output{Hard: hard(term, 1), Send: []api.Msg{{Kind: api.MVote, To: 1}}})
		}
	}
}

// ErrNil and zero views, of nodes that New did not make.
func TestUnmade(t *testing.T) {
	for _, r := range []*raft.Raft{nil, {}} {
		for kind := range 8 {
			step(t, r, api.Input{Kind: kind, Data: open(), Voters: []int{0}, Msg: api.Msg{Kind: api.MVote, From: 1, Term: 1}}, api.Output{Err: api.ErrNil})
		}
		is(t, r, api.View{})
	}
}

// P12.3: kinds that are none.
func TestStepKind(t *testing.T) {
	r := made(t, 0, api.Hard{}, first(0), nil, 1)
	for _, kind := range []int{0, -1, 7, 8, math.MinInt, math.MaxInt} {
		refused(t, r, api.Input{Kind: kind, Data: open(), Voters: []int{0, 1}}, api.ErrArg)
	}
}
