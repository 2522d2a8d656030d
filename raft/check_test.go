package raft_test

import (
	"math"
	"slices"
	"testing"

	"spandrel/api"
	"spandrel/raft"
)

// some is a message of each kind that may be, from the first one on at place 1.
func some() []api.Msg {
	return []api.Msg{
		{},
		{Kind: api.MVote, From: 0, To: 6, Term: 3, Index: 7, LogTerm: 2, Commit: 1, Round: 4},
		{Kind: api.MVoted, From: 1, To: 5, Term: 3, Yes: true},
		{Kind: api.MAppend, From: 2, To: 4, Term: 3, Index: 7, LogTerm: 2, Commit: 9, Round: 4, Entries: row(8, 2, 3)},
		{Kind: api.MAppended, From: 3, To: 2, Term: 3, Index: 7, Round: 4},
		{Kind: api.MInstall, From: 4, To: 1, Term: 3, Index: 7, LogTerm: 2, Commit: 512, Round: 4, Voters: []int{0, 1, 2}, Data: data(88)},
		{Kind: api.MInstalled, From: 5, To: 0, Term: 3, Index: 7, Commit: 512, Round: 4},
	}
}

// may fails unless a message may be, just as is said.
func may(t *testing.T, m api.Msg, right bool) {
	t.Helper()
	e := raft.Check(m)
	if right && e != api.OK || !right && e != api.ErrMsg {
		t.Fatalf("%v of %+v", e, m)
	}
}

// P12.2: kinds, nodes, flags.
func TestCheckNodes(t *testing.T) {
	for kind, m := range some() {
		may(t, m, kind > 0)
		for _, other := range []int{0, -1, 7, 8, math.MinInt, math.MaxInt} {
			x := m
			x.Kind = other
			may(t, x, false)
		}
		for from := -1; from < 9; from++ {
			for to := -1; to < 9; to++ {
				x := m
				x.From, x.To = from, to
				may(t, x, kind > 0 && from != to && 0 <= from && from <= 6 && 0 <= to && to <= 6)
			}
		}
		for flags := range 4 {
			x := m
			x.Yes, x.Done = flags&1 == 1, flags&2 == 2
			may(t, x, kind > 0)
		}
	}
	for _, n := range []int{math.MinInt, math.MaxInt} {
		may(t, api.Msg{Kind: api.MVote, From: n, To: 1, Term: 1}, false)
		may(t, api.Msg{Kind: api.MVote, From: 1, To: n, Term: 1}, false)
	}
}

// P12.2: each number, at its edges.
func TestCheckNumbers(t *testing.T) {
	for kind, m := range some()[1:] {
		kind++
		for _, n := range []int{math.MinInt, -1, 0, 1, most, most + 1, math.MaxInt} {
			right := 0 <= n && n <= most
			x := m
			x.Commit = n
			may(t, x, right)
			x = m
			x.Round = n
			may(t, x, right)
			x = m
			x.Term = n
			// Entries, and what stands ahead of them, are of no later term.
			may(t, x, right && n > 0 && (n >= 3 || kind != api.MAppend && kind != api.MInstall))
			x = m
			x.Index, x.LogTerm, x.Entries = n, n, nil
			x.Term = most
			may(t, x, right && (n > 0 || kind != api.MInstall))
			x.Index, x.LogTerm = n, 1
			may(t, x, right && (n > 0 || kind != api.MInstall && kind != api.MAppend))
			x.Index, x.LogTerm = 1, n
			may(t, x, right && (n > 0 || kind != api.MInstall && kind != api.MAppend))
		}
		x := m
		x.Entries = nil
		x.LogTerm = 3
		may(t, x, true)
		x.LogTerm = 4
		may(t, x, kind != api.MAppend && kind != api.MInstall)
	}
}

// P12.2: what a message may have, by its kind.
func TestCheckLists(t *testing.T) {
	for kind, m := range some()[1:] {
		kind++
		x := m
		x.Entries = row(8, 2)
		may(t, x, kind == api.MAppend)
		x = m
		x.Voters = []int{0}
		may(t, x, kind == api.MInstall)
		x = m
		x.Data = []byte{1}
		may(t, x, kind == api.MInstall)
		x = m
		x.Entries, x.Data = []api.Entry{}, []byte{}
		may(t, x, true)
		x.Voters = []int{}
		may(t, x, kind != api.MInstall)
	}
}

// P12.2: an MAppend's entries.
func TestCheckAppend(t *testing.T) {
	m := some()[api.MAppend]
	for n := range 12 {
		m.Entries = row(8, slices.Repeat([]int{2}, n)...)
		may(t, m, n <= 8)
	}
	long := api.Entry{Index: 8, Term: 2, Data: data(api.MaxData)}
	longer := api.Entry{Index: 8, Term: 2, Data: data(api.MaxData + 1)}
	for _, x := range []struct {
		l     []api.Entry
		right bool
	}{
		{row(8, 2), true}, {row(8, 3), true}, {row(8, 2, 2, 3, 3), true}, {row(8, 1), false}, {row(8, 4), false}, {row(8, 2, 3, 4), false}, {row(8, 3, 2), false},
		{row(7, 2), false}, {row(9, 2), false}, {row(8, 0), false}, {row(8, -1), false}, {[]api.Entry{long}, true}, {[]api.Entry{longer}, false},
		{append(row(8, 2), row(8, 2)...), false}, {append(row(8, 2), row(10, 2)...), false}, {[]api.Entry{{}}, false}, {[]api.Entry{{Index: 8, Term: 2}}, true},
	} {
		m.Entries = x.l
		may(t, m, x.right)
	}
	m.Index, m.LogTerm, m.Entries = 0, 0, row(1, 1, 3)
	may(t, m, true)
	m.Index, m.LogTerm, m.Entries = most-1, 3, row(most, 3)
	may(t, m, true)
	m.Index, m.Entries = most, row(most+1, 3)
	may(t, m, false)
	m.Entries = nil
	may(t, m, true)
}

// P12.2: an MInstall's voters and data.
func TestCheckInstall(t *testing.T) {
	m := some()[api.MInstall]
	for _, n := range []int{0, 1, 511, 512, 513, 5000} {
		m.Data = data(n)
		may(t, m, n <= 512)
	}
	m.Data = nil
	for _, l := range [][]int{{0}, {6}, {0, 1, 2, 3, 4, 5, 6}, {2, 4}} {
		m.Voters = l
		may(t, m, true)
	}
	for _, l := range [][]int{nil, {-1}, {7}, {1, 0}, {3, 3}, {0, 1, 2, 3, 4, 5, 6, 7}, make([]int, 10000)} {
		m.Voters = l
		may(t, m, false)
	}
}
