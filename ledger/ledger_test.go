package ledger_test

import (
	"bytes"
	"math"
	"slices"
	"strconv"
	"testing"

	"spandrel/api"
	"spandrel/ledger"
)

// most is the greatest index and the greatest term.
const most = 1 << 40

// entry is one whose bytes tell its index and its term.
func entry(index, term int) api.Entry {
	return api.Entry{Index: index, Term: term, Data: []byte(strconv.Itoa(index) + "." + strconv.Itoa(term))}
}

// row is entries from an index on, of these terms.
func row(from int, terms ...int) []api.Entry {
	var l []api.Entry
	for i, term := range terms {
		l = append(l, entry(from+i, term))
	}
	return l
}

// long is an entry with so many bytes.
func long(index, term, n int) api.Entry {
	return api.Entry{Index: index, Term: term, Data: make([]byte, n)}
}

// made is the ledger of a base, with entries behind it of these terms.
func made(t *testing.T, index, term int, terms ...int) *ledger.Ledger {
	t.Helper()
	l, e := ledger.New(index, term, row(index+1, terms...)...)
	want(t, e, api.OK)
	holds(t, l, index, term, row(index+1, terms...)...)
	return l
}

// want fails unless an error is the one that is to come.
func want(t *testing.T, e, right api.Errno) {
	t.Helper()
	if e != right {
		t.Fatal(e, "not", right)
	}
}

// same tells whether entries are the same.
func same(a, b []api.Entry) bool {
	return slices.EqualFunc(a, b, func(x, y api.Entry) bool {
		return x.Index == y.Index && x.Term == y.Term && bytes.Equal(x.Data, y.Data)
	})
}

// holds fails unless a ledger has just this base, and just these entries.
func holds(t *testing.T, l *ledger.Ledger, index, term int, rows ...api.Entry) {
	t.Helper()
	if i, n := l.Base(); i != index || n != term {
		t.Fatal("base", i, n, "not", index, term)
	}
	if all := l.From(index+1, math.MaxInt); !same(all, rows) {
		t.Fatal(all, "not", rows)
	}
	termIs(t, l, index, term, true)
	for _, e := range rows {
		termIs(t, l, e.Index, e.Term, true)
		index, term = e.Index, e.Term
	}
	if i, n := l.Last(); i != index || n != term {
		t.Fatal("last", i, n, "not", index, term)
	}
	termIs(t, l, index+1, 0, false)
}

// termIs fails unless a ledger tells that term of an index.
func termIs(t *testing.T, l *ledger.Ledger, index, term int, there bool) {
	t.Helper()
	if n, ok := l.Term(index); n != term || ok != there {
		t.Fatal("term of", index, "is", n, ok, "not", term, there)
	}
}

// brings fails unless others' entries come to just that.
func brings(t *testing.T, l *ledger.Ledger, index, term int, more []api.Entry, from int, rows []api.Entry, right bool) {
	t.Helper()
	if at, told, ok := l.Merge(index, term, more...); at != from || !same(told, rows) || ok != right {
		t.Fatal(index, term, more, "come to", at, told, ok, "not", from, rows, right)
	}
}

// strange is rows that do not go on from index 3 and term 2, in a way of their own each.
func strange() [][]api.Entry {
	return [][]api.Entry{
		row(3, 2), row(5, 2), row(0, 2), row(-4, 2), row(math.MinInt, 2), row(math.MaxInt, 2),
		row(4, 1), row(4, 0), row(4, -1), row(4, most+1), row(4, math.MaxInt), row(4, math.MinInt),
		{long(4, 2, api.MaxData+1)},
		{entry(4, 3), entry(5, 2)}, {entry(4, 2), entry(6, 2)}, {entry(4, 2), entry(4, 2)}, {entry(5, 2), entry(4, 2)},
		{entry(4, 2), entry(5, most), entry(6, most+1)}, {entry(4, 2), {}}, {{}},
		{entry(4, 2), long(5, 2, api.MaxData), long(6, 2, api.MaxData+1)},
	}
}

// The chapter's example.
func TestExample(t *testing.T) {
	l := made(t, 0, 0, 1, 1, 2)
	brings(t, l, 2, 1, row(3, 3), 3, row(3, 3), true)
	brings(t, l, 3, 1, row(4, 3), 0, nil, false)
	brings(t, l, 3, 1, nil, 0, nil, false)
	brings(t, l, 1, 1, row(2, 1), 0, nil, true)
	if l.Hint(3) != 3 || l.Hint(2) != 1 || l.Hint(9) != 4 {
		t.Error(l.Hint(3), l.Hint(2), l.Hint(9))
	}
	if !l.Fresh(3, 2) || l.Fresh(9, 1) {
		t.Error("fresh")
	}
}

// P11.1: which bases may be.
func TestNewBase(t *testing.T) {
	made(t, 0, 0)
	made(t, 1, 1)
	made(t, most, 1)
	made(t, 1, most)
	made(t, most, most)
	for _, x := range [][2]int{
		{0, 1}, {1, 0}, {-1, -1}, {-1, 0}, {0, -1}, {-1, 1}, {1, -1}, {most + 1, 1}, {1, most + 1}, {most + 1, most + 1}, {0, most}, {most, 0},
		{math.MaxInt, math.MaxInt}, {math.MinInt, math.MinInt}, {math.MaxInt, 1}, {1, math.MinInt},
	} {
		l, e := ledger.New(x[0], x[1])
		if l != nil || e != api.ErrLedger {
			t.Error(x, l, e)
		}
	}
}

// P11.1: which entries may be behind a base.
func TestNewEntries(t *testing.T) {
	made(t, 0, 0, 1, 1, 1, 5, most)
	made(t, 3, 2, 2, 3)
	made(t, most-1, most, most)
	for _, rows := range append(strange(), row(4, 2, 2, 1), row(1, 2)) {
		l, e := ledger.New(3, 2, rows...)
		if l != nil || e != api.ErrLedger {
			t.Error(rows, l, e)
		}
	}
	for _, rows := range [][]api.Entry{row(1, 0), row(0, 1), row(2, 1), row(1, -1)} {
		l, e := ledger.New(0, 0, rows...)
		if l != nil || e != api.ErrLedger {
			t.Error(rows, l, e)
		}
	}
	if l, e := ledger.New(most, 1, entry(most+1, 1)); l != nil || e != api.ErrLedger {
		t.Error(l, e)
	}
	if l, e := ledger.New(most-1, 1, row(most, 1, 1)...); l != nil || e != api.ErrLedger {
		t.Error(l, e)
	}
	full := long(1, 1, api.MaxData)
	l, e := ledger.New(0, 0, full)
	want(t, e, api.OK)
	holds(t, l, 0, 0, full)
}

// P11.1: the term of each index, and of those that are not there.
func TestTerm(t *testing.T) {
	l := made(t, 3, 2, 2, 4, 4)
	for _, index := range []int{2, 1, 0, -1, 7, 8, math.MinInt, math.MinInt + 3, math.MaxInt, most} {
		termIs(t, l, index, 0, false)
	}
	termIs(t, l, 3, 2, true)
	termIs(t, l, 4, 2, true)
	termIs(t, l, 6, 4, true)
	termIs(t, made(t, 0, 0), 0, 0, true)
}

// P11.1: the entries from one on, at most so many.
func TestFrom(t *testing.T) {
	l := made(t, 3, 2, 2, 4, 4)
	for _, x := range []struct {
		index, most int
		right       []api.Entry
	}{
		{4, 0, nil}, {4, -1, nil}, {4, math.MinInt, nil}, {4, 1, row(4, 2)}, {4, 2, row(4, 2, 4)}, {4, 3, row(4, 2, 4, 4)}, {4, 4, row(4, 2, 4, 4)},
		{4, math.MaxInt, row(4, 2, 4, 4)}, {5, 1, row(5, 4)}, {5, 9, row(5, 4, 4)}, {6, 1, row(6, 4)}, {6, math.MaxInt, row(6, 4)},
		{3, 9, nil}, {2, 9, nil}, {0, 9, nil}, {-1, 9, nil}, {7, 9, nil}, {math.MinInt, 9, nil}, {math.MinInt + 4, 9, nil}, {math.MaxInt, 9, nil},
	} {
		if rows := l.From(x.index, x.most); !same(rows, x.right) {
			t.Error(x.index, x.most, rows)
		}
	}
	if rows := made(t, 0, 0).From(0, 9); len(rows) > 0 {
		t.Error(rows)
	}
}

// P11.2, P11.7: entries that go on stand behind; of such as do not none does.
func TestAdd(t *testing.T) {
	l := made(t, 0, 0)
	want(t, l.Add(), api.OK)
	want(t, l.Add([]api.Entry{}...), api.OK)
	holds(t, l, 0, 0)
	want(t, l.Add(row(1, 1, 2)...), api.OK)
	want(t, l.Add(row(3, 2)...), api.OK)
	for _, rows := range strange() {
		want(t, l.Add(rows...), api.ErrLedger)
		holds(t, l, 0, 0, row(1, 1, 2, 2)...)
	}
	want(t, l.Add(entry(4, most), long(5, most, api.MaxData)), api.OK)
	holds(t, l, 0, 0, append(row(1, 1, 2, 2, most), long(5, most, api.MaxData))...)

	l = made(t, 3, 2)
	for _, rows := range strange() {
		want(t, l.Add(rows...), api.ErrLedger)
		holds(t, l, 3, 2)
	}
	want(t, l.Add(row(4, 2)...), api.OK)
	holds(t, l, 3, 2, row(4, 2)...)

	l = made(t, most-1, 1)
	want(t, l.Add(row(most, 1, 1)...), api.ErrLedger)
	holds(t, l, most-1, 1)
	want(t, l.Add(row(most, 1)...), api.OK)
	want(t, l.Add(row(most+1, 1)...), api.ErrLedger)
	want(t, l.Add(), api.OK)
	holds(t, l, most-1, 1, row(most, 1)...)
}

// P11.2, P11.7: an entry that is there goes, and all behind it; others may come then.
func TestCut(t *testing.T) {
	l := made(t, 3, 2, 2, 4, 4)
	for _, from := range []int{3, 2, 0, -1, 7, 8, math.MinInt, math.MinInt + 4, math.MaxInt} {
		want(t, l.Cut(from), api.ErrIndex)
		holds(t, l, 3, 2, row(4, 2, 4, 4)...)
	}
	want(t, l.Cut(6), api.OK)
	holds(t, l, 3, 2, row(4, 2, 4)...)
	want(t, l.Cut(6), api.ErrIndex)
	want(t, l.Add(row(6, 9)...), api.OK)
	want(t, l.Cut(5), api.OK)
	holds(t, l, 3, 2, row(4, 2)...)
	want(t, l.Add(row(5, 3, 3)...), api.OK)
	holds(t, l, 3, 2, row(4, 2, 3, 3)...)
	want(t, l.Cut(4), api.OK)
	holds(t, l, 3, 2)
	want(t, l.Cut(4), api.ErrIndex)
	want(t, l.Cut(3), api.ErrIndex)
}

// P11.2: another base, and what stays behind it.
func TestRebase(t *testing.T) {
	for _, x := range []struct {
		index, term int
		stay        []api.Entry
	}{
		{3, 2, row(4, 2, 4, 4)}, {3, 1, nil}, {3, 3, nil},
		{4, 2, row(5, 4, 4)}, {4, 1, nil}, {4, 4, nil},
		{5, 4, row(6, 4)}, {5, 2, nil}, {5, 9, nil},
		{6, 4, nil}, {6, 1, nil}, {7, 4, nil}, {7, 1, nil}, {8, 4, nil}, {most, 1, nil}, {most, most, nil},
	} {
		l := made(t, 3, 2, 2, 4, 4)
		want(t, l.Rebase(x.index, x.term), api.OK)
		holds(t, l, x.index, x.term, x.stay...)
		if x.index < most {
			n := len(x.stay)
			want(t, l.Add(row(x.index+1+n, most)...), api.OK)
			holds(t, l, x.index, x.term, append(x.stay, entry(x.index+1+n, most))...)
		}
	}
	l := made(t, 0, 0, 1, 2)
	want(t, l.Rebase(0, 0), api.OK)
	holds(t, l, 0, 0, row(1, 1, 2)...)
	want(t, l.Rebase(1, 1), api.OK)
	holds(t, l, 1, 1, row(2, 2)...)
	want(t, l.Rebase(2, 1), api.OK)
	holds(t, l, 2, 1)
}

// P11.2, P11.7: bases that can't be, or are below.
func TestRebaseRefuses(t *testing.T) {
	for _, x := range [][2]int{
		{2, 2}, {1, 1}, {0, 0}, {-1, 2}, {math.MinInt, 2}, {3, 0}, {4, 0}, {4, -1}, {4, most + 1}, {4, math.MinInt}, {4, math.MaxInt},
		{most + 1, 4}, {math.MaxInt, 4}, {0, 2}, {7, 0},
	} {
		l := made(t, 3, 2, 2, 4, 4)
		want(t, l.Rebase(x[0], x[1]), api.ErrLedger)
		holds(t, l, 3, 2, row(4, 2, 4, 4)...)
	}
	l := made(t, 0, 0, 1)
	for _, x := range [][2]int{{0, 1}, {1, 0}, {0, -1}, {-1, 0}} {
		want(t, l.Rebase(x[0], x[1]), api.ErrLedger)
		holds(t, l, 0, 0, row(1, 1)...)
	}
}

// P11.3: the term goes ahead of the index; of a ledger without entries its base is held against.
func TestFresh(t *testing.T) {
	for _, l := range []*ledger.Ledger{made(t, 3, 2, 2, 4), made(t, 5, 4)} {
		for _, x := range []struct {
			index, term int
			right       bool
		}{
			{5, 4, true}, {6, 4, true}, {4, 4, false}, {5, 5, true}, {1, 5, true}, {-1, 5, true}, {math.MinInt, math.MaxInt, true}, {math.MaxInt, 4, true},
			{5, 3, false}, {9, 3, false}, {math.MaxInt, 3, false}, {9, -4, false}, {0, 0, false}, {math.MinInt, 4, false}, {math.MaxInt, math.MinInt, false},
		} {
			if l.Fresh(x.index, x.term) != x.right {
				t.Error(x)
			}
		}
	}
	l := made(t, 0, 0)
	if !l.Fresh(0, 0) || !l.Fresh(1, 1) || !l.Fresh(1, 0) || l.Fresh(-1, 0) || l.Fresh(1, -1) {
		t.Error("without entries")
	}
}

// P11.5: from where on to ask.
func TestHint(t *testing.T) {
	for _, x := range []struct {
		l     *ledger.Ledger
		index int
		right int
	}{
		{made(t, 3, 2, 2, 2, 4, 4, 5), 8, 8}, {made(t, 3, 2, 2, 2, 4, 4, 5), 7, 6}, {made(t, 3, 2, 2, 2, 4, 4, 5), 6, 6},
		{made(t, 3, 2, 2, 2, 4, 4, 5), 5, 4}, {made(t, 3, 2, 2, 2, 4, 4, 5), 4, 4}, {made(t, 3, 2, 2, 2, 4, 4, 5), 3, 4},
		{made(t, 3, 2, 2, 2, 4, 4, 5), 0, 4}, {made(t, 3, 2, 2, 2, 4, 4, 5), -1, 4}, {made(t, 3, 2, 2, 2, 4, 4, 5), math.MinInt, 4},
		{made(t, 3, 2, 2, 2, 4, 4, 5), 9, 9}, {made(t, 3, 2, 2, 2, 4, 4, 5), 10, 9}, {made(t, 3, 2, 2, 2, 4, 4, 5), math.MaxInt, 9},
		{made(t, 3, 2, 4, 4), 3, 4}, {made(t, 3, 2, 4, 4), 5, 4},
		{made(t, 3, 2), 3, 4}, {made(t, 3, 2), 2, 4}, {made(t, 3, 2), 4, 4}, {made(t, 3, 2), 99, 4}, {made(t, 3, 2), math.MinInt, 4},
		{made(t, 0, 0), 0, 1}, {made(t, 0, 0), -1, 1}, {made(t, 0, 0), 7, 1}, {made(t, 0, 0, 1, 1), 0, 1}, {made(t, 0, 0, 1, 1), 3, 3},
		{made(t, most, 1), most, most + 1}, {made(t, most, 1), 1, most + 1}, {made(t, most-1, 1, 1), math.MaxInt, most + 1}, {made(t, most-1, 1, 1), most, most},
	} {
		if n := x.l.Hint(x.index); n != x.right {
			t.Error(x.index, n, "not", x.right)
		}
	}
}

// P11.5: a clone has the same, and goes its own way.
func TestClone(t *testing.T) {
	l := made(t, 3, 2, 2, 4, 4)
	c := l.Clone()
	holds(t, c, 3, 2, row(4, 2, 4, 4)...)
	want(t, c.Cut(5), api.OK)
	want(t, c.Add(row(5, 7)...), api.OK)
	holds(t, l, 3, 2, row(4, 2, 4, 4)...)
	want(t, l.Rebase(4, 2), api.OK)
	want(t, l.Add(row(7, 8)...), api.OK)
	holds(t, c, 3, 2, row(4, 2, 7)...)
	holds(t, l, 4, 2, row(5, 4, 4, 8)...)
	want(t, c.Clone().Add(row(6, 9)...), api.OK)
	holds(t, c, 3, 2, row(4, 2, 7)...)
	holds(t, made(t, 0, 0).Clone(), 0, 0)
}

// P11.5: a ledger that no call made.
func TestUnmade(t *testing.T) {
	for _, l := range []*ledger.Ledger{nil, {}, new(ledger.Ledger)} {
		want(t, l.Add(), api.ErrNil)
		want(t, l.Add(row(1, 1)...), api.ErrNil)
		want(t, l.Add(row(9, -1)...), api.ErrNil)
		want(t, l.Cut(0), api.ErrNil)
		want(t, l.Cut(1), api.ErrNil)
		want(t, l.Rebase(0, 0), api.ErrNil)
		want(t, l.Rebase(1, 1), api.ErrNil)
		want(t, l.Rebase(-1, 1), api.ErrNil)
		for _, n := range []int{-1, 0, 1, 9, math.MaxInt, math.MinInt} {
			termIs(t, l, n, 0, false)
			brings(t, l, n, n, nil, 0, nil, false)
			brings(t, l, n, 0, row(n+1, 1), 0, nil, false)
			if l.From(n, 9) != nil || l.Fresh(n, n) || l.Fresh(n, 1) || l.Hint(n) != 1 {
				t.Error(n)
			}
		}
		if i, n := l.Base(); i != 0 || n != 0 {
			t.Error(i, n)
		}
		if i, n := l.Last(); i != 0 || n != 0 {
			t.Error(i, n)
		}
		if l.Clone() != nil {
			t.Error("clone")
		}
	}
}
