package ledger_test

import (
	"math"
	"slices"
	"testing"

	"spandrel/api"
	"spandrel/ledger"
)

// P11.4: what can't be held against a ledger's entries.
func TestMergeRefuses(t *testing.T) {
	l := made(t, 3, 2, 2, 4, 4)
	for _, x := range []struct {
		index, term int
		more        []api.Entry
	}{
		{7, 4, nil}, {7, 0, nil}, {7, 4, row(8, 4)}, {math.MaxInt, 4, nil}, {math.MaxInt, 4, row(math.MinInt, 4)}, {most, 4, row(most+1, 4)},
		{3, 1, nil}, {3, 0, row(4, 2)}, {3, 3, row(4, 4)}, {3, 1, row(4, 2, 4)},
		{4, 1, row(5, 4)}, {4, 4, row(5, 4)}, {4, 0, nil}, {4, -2, nil}, {5, 2, nil}, {5, 2, row(6, 4)}, {6, 2, row(7, 4)}, {6, 9, nil},
	} {
		brings(t, l, x.index, x.term, x.more, 0, nil, false)
	}
	for _, rows := range strange() {
		brings(t, l, 3, 2, rows, 0, nil, false)
	}
	// What does not go on is refused behind the base, too.
	brings(t, l, 1, 3, row(2, 2), 0, nil, false)
	brings(t, l, 1, 1, row(3, 1), 0, nil, false)
	brings(t, l, 1, 1, row(2, 1, 0), 0, nil, false)
	brings(t, l, 1, 1, []api.Entry{long(2, 1, api.MaxData+1)}, 0, nil, false)
	holds(t, l, 3, 2, row(4, 2, 4, 4)...)
}

// P11.4: the entries that stand behind one that the ledger has.
func TestMergeBehind(t *testing.T) {
	l := made(t, 3, 2, 2, 4, 4)
	for _, x := range []struct {
		index, term int
		more        []api.Entry
		from        int
		told        []api.Entry
	}{
		{3, 2, nil, 0, nil}, {3, 2, []api.Entry{}, 0, nil}, {6, 4, nil, 0, nil},
		{3, 2, row(4, 2), 0, nil}, {3, 2, row(4, 2, 4, 4), 0, nil}, {5, 4, row(6, 4), 0, nil},
		{3, 2, row(4, 2, 4, 4, 4), 0, row(7, 4)}, {3, 2, row(4, 2, 4, 4, 5, 6), 0, row(7, 5, 6)}, {6, 4, row(7, 4, 5), 0, row(7, 4, 5)},
		{3, 2, row(4, 3), 4, row(4, 3)}, {3, 2, row(4, 3, 4, 4, 4), 4, row(4, 3, 4, 4, 4)}, {3, 2, row(4, 2, 3), 5, row(5, 3)},
		{4, 2, row(5, 2), 5, row(5, 2)}, {4, 2, row(5, 2, 4), 5, row(5, 2, 4)}, {4, 2, row(5, 4, 5, 5), 6, row(6, 5, 5)}, {5, 4, row(6, most), 6, row(6, most)},
	} {
		brings(t, l, x.index, x.term, x.more, x.from, x.told, true)
	}
	holds(t, l, 3, 2, row(4, 2, 4, 4)...)
	brings(t, made(t, 0, 0), 0, 0, row(1, 1, 2), 0, row(1, 1, 2), true)
	brings(t, made(t, 0, 0), 0, 1, nil, 0, nil, false)
	brings(t, made(t, most-1, 1), most-1, 1, row(most, 1), 0, row(most, 1), true)
	brings(t, made(t, most-1, 1), most-1, 1, row(most, 1, 1), 0, nil, false)
}

// P11.4: entries that begin ahead of the base: up to it they pass, whatever they say.
func TestMergeAhead(t *testing.T) {
	for _, x := range []struct {
		index, term int
		more        []api.Entry
		from        int
		told        []api.Entry
		right       bool
	}{
		{2, 1, nil, 0, nil, true}, {2, 9, nil, 0, nil, true}, {0, 0, nil, 0, nil, true}, {-1, -1, nil, 0, nil, true}, {math.MinInt, math.MinInt, nil, 0, nil, true},
		{1, 1, row(2, 1, 3), 0, nil, true}, {1, 1, row(2, 1), 0, nil, true}, {0, 0, row(1, 1, 1, 1), 0, nil, true}, {2, math.MinInt, row(3, 9), 0, nil, true},
		{1, 1, row(2, 1, 3, 4), 0, nil, true}, {1, 1, row(2, 1, 3, 4, 5), 0, nil, true}, {2, 2, row(3, 2, 4, 5), 0, nil, true},
		{1, 1, row(2, 1, 3, 4, 5, 5), 0, row(6, 5), true}, {1, 1, row(2, 1, 3, 3), 4, row(4, 3), true}, {1, 1, row(2, 1, 5, 5, 5), 4, row(4, 5, 5), true},
		{1, 1, row(2, 1, 3, 4, 6), 5, row(5, 6), true}, {2, 1, row(3, 1, 4, 4, 4), 5, row(5, 4, 4), true},
		// The one right behind the base would stand below it.
		{1, 1, row(2, 1, 1, 1), 0, nil, false}, {1, 1, row(2, 1, 2, 2, 5), 0, nil, false}, {2, 2, row(3, 2, 2), 0, nil, false},
	} {
		brings(t, made(t, 3, 3, 4, 5), x.index, x.term, x.more, x.from, x.told, x.right)
	}
	// Without entries there is nothing to cut.
	brings(t, made(t, 3, 3), 1, 1, row(2, 1, 3, 3, 4), 0, row(4, 3, 4), true)
	brings(t, made(t, 3, 3), 1, 1, row(2, 1, 2, 2, 4), 0, nil, false)
	brings(t, made(t, 3, 3), 1, 1, row(2, 1, 2), 0, nil, true)
}

// P11.4: of an entry with the index and the term of one that is there the bytes are not asked: that one stays.
func TestMergeOtherBytes(t *testing.T) {
	l := made(t, 0, 0, 1, 1)
	other := api.Entry{Index: 2, Term: 1, Data: []byte("other")}
	brings(t, l, 1, 1, []api.Entry{other}, 0, nil, true)
	brings(t, l, 1, 1, []api.Entry{other, entry(3, 1)}, 0, row(3, 1), true)
	holds(t, l, 0, 0, row(1, 1, 1)...)
}

// scribble writes over all bytes of entries, those in the room behind included, and over the entries.
func scribble(l []api.Entry) {
	l = l[:cap(l)]
	for i := range l {
		b := l[i].Data[:cap(l[i].Data)]
		for j := range b {
			b[j] = '!'
		}
		l[i] = api.Entry{Index: -9, Term: -9}
	}
}

// roomy is a row whose lists have room behind their ends, with something in it.
func roomy(l []api.Entry) []api.Entry {
	all := append(slices.Clone(l), entry(77, 77), entry(78, 78))
	for i, e := range all {
		all[i].Data = append(slices.Clone(e.Data), "room"...)[:len(e.Data)]
	}
	return all[:len(l)]
}

// untouched fails unless a roomy row is as it was made.
func untouched(t *testing.T, l, was []api.Entry) {
	t.Helper()
	all := l[:len(was)+2]
	if !same(all, append(slices.Clone(was), entry(77, 77), entry(78, 78))) {
		t.Fatal(all)
	}
	for _, e := range all {
		n := len(e.Data)
		if string(e.Data[n:n+4]) != "room" {
			t.Fatal(all)
		}
	}
}

// What is handed in is neither changed nor kept.
func TestArguments(t *testing.T) {
	was := row(4, 2, 4, 4)
	given := roomy(was)
	l, e := ledger.New(3, 2, given...)
	want(t, e, api.OK)
	untouched(t, given, was)
	scribble(given)
	holds(t, l, 3, 2, was...)

	more := row(7, 5, 6)
	given = roomy(more)
	want(t, l.Add(given...), api.OK)
	want(t, l.Cut(8), api.OK)
	want(t, l.Add(entry(8, 7)), api.OK)
	untouched(t, given, more)
	scribble(given)
	holds(t, l, 3, 2, row(4, 2, 4, 4, 5, 7)...)

	more = row(6, 4, 8, 8)
	given = roomy(more)
	_, told, _ := l.Merge(5, 4, given...)
	untouched(t, given, more)
	scribble(given)
	if !same(told, row(7, 8, 8)) {
		t.Fatal(told)
	}
}

// What is answered is new: it shares nothing with a ledger, or with another answer.
func TestAnswers(t *testing.T) {
	l := made(t, 3, 2, 2, 4, 4)
	a, b := l.From(4, 2), l.From(4, 9)
	c := l.Clone()
	scribble(a)
	if !same(b, row(4, 2, 4, 4)) {
		t.Fatal(b)
	}
	scribble(b)
	holds(t, l, 3, 2, row(4, 2, 4, 4)...)
	scribble(c.From(4, 9))
	holds(t, c, 3, 2, row(4, 2, 4, 4)...)

	more := row(4, 2, 4, 5, 5)
	_, a, _ = l.Merge(3, 2, more...)
	_, b, _ = l.Merge(3, 2, more...)
	scribble(a)
	if !same(b, row(6, 5, 5)) || !same(more, row(4, 2, 4, 5, 5)) {
		t.Fatal(b, more)
	}
}

// Data without bytes is told alike, wherever it comes from.
func TestNoBytes(t *testing.T) {
	for _, none := range [][]byte{nil, {}, make([]byte, 0, 9)} {
		l, e := ledger.New(0, 0, api.Entry{Index: 1, Term: 1, Data: none})
		want(t, e, api.OK)
		want(t, l.Add(api.Entry{Index: 2, Term: 1, Data: none}), api.OK)
		_, told, _ := l.Merge(2, 1, api.Entry{Index: 3, Term: 1, Data: none})
		for _, e := range append(l.Clone().From(1, 9), told...) {
			if e.Data != nil {
				t.Error(e)
			}
		}
	}
}
