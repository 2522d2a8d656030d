package forest_test

import (
	"math"
	"math/rand"
	"slices"
	"testing"

	"spandrel/api"
	"spandrel/forest"
	"spandrel/span"
)

// most is the greatest number of a trace or of a span.
const most = 1 << 40

// at is a span of trace 1 whose work begins at a time, and takes two more.
func at(id, parent, start int) api.Span {
	return api.Span{Trace: 1, ID: id, Parent: parent, Start: start, End: start + 2, Name: "work"}
}

// planted is a forest of trace 1 to which spans were added, none of them in vain.
func planted(t *testing.T, l ...api.Span) *forest.Forest {
	t.Helper()
	f := forest.New(1)
	if c, e := f.Add(l...); e != api.OK || c != (api.Counts{Added: len(l)}) {
		t.Fatal(c, e)
	}
	return f
}

// chain is spans each of which but the first stands beneath the one ahead of it.
func chain(n int) []api.Span {
	var l []api.Span
	for i := range n {
		l = append(l, at(i+1, i, n-i))
	}
	return l
}

// P4.1: which traces may be.
func TestNew(t *testing.T) {
	for _, trace := range []int{0, -1, most + 1, math.MinInt, math.MaxInt} {
		if forest.New(trace) != nil {
			t.Error(trace)
		}
	}
	for _, trace := range []int{1, 2, most} {
		f := forest.New(trace)
		if f == nil {
			t.Fatal(trace)
		}
		if s, ok := f.Find(1); f.Len() != 0 || f.Spans() != nil || f.End() != 0 || f.Branches() != nil || ok || s != (api.Span{}) {
			t.Error(trace)
		}
		s := api.Span{Trace: trace, ID: 1, Name: "a"}
		if c, e := f.Add(s); e != api.OK || c != (api.Counts{Added: 1}) || f.Len() != 1 {
			t.Error(trace, c, e)
		}
	}
}

// P4.1: what came of each span.
func TestAdd(t *testing.T) {
	f := planted(t, at(2, 0, 5), at(3, 2, 6))
	for _, x := range []struct {
		l []api.Span
		c api.Counts
	}{
		{nil, api.Counts{}},
		{[]api.Span{}, api.Counts{}},
		{[]api.Span{at(2, 0, 5)}, api.Counts{Same: 1}},
		{[]api.Span{at(3, 2, 6), at(2, 0, 5), at(3, 2, 6)}, api.Counts{Same: 3}},
		{[]api.Span{at(2, 7, 5)}, api.Counts{Other: 1}},
		{[]api.Span{at(2, 0, 4)}, api.Counts{Other: 1}},
		{[]api.Span{{Trace: 1, ID: 2, Start: 5, End: 8, Name: "work"}}, api.Counts{Other: 1}},
		{[]api.Span{{Trace: 1, ID: 2, Start: 5, End: 7, Name: "worl"}}, api.Counts{Other: 1}},
		{[]api.Span{at(2, 3, 5)}, api.Counts{Other: 1}},
		{[]api.Span{at(4, 9, 1), at(9, 4, 1), at(9, 4, 1), at(4, 9, 1), at(4, 9, 2), at(9, 2, 1)}, api.Counts{Added: 2, Cycle: 2, Same: 1, Other: 1}},
	} {
		if c, e := f.Add(x.l...); e != api.OK || c != x.c {
			t.Errorf("%+v: %+v %v", x.l, c, e)
		}
	}
	if want := []api.Span{at(4, 9, 1), at(9, 2, 1), at(2, 0, 5), at(3, 2, 6)}; !slices.Equal(f.Spans(), want) {
		t.Error(f.Spans())
	}
}

// P4.1: one span that may not be, or is of another trace, and none is added.
func TestAddRefuses(t *testing.T) {
	bad := []api.Span{
		{},
		{Trace: 2, ID: 7, Name: "other-trace"},
		{Trace: 1, ID: 0, Name: "a"},
		{Trace: 1, ID: 7, Parent: 7, Name: "a"},
		{Trace: 1, ID: 7, Start: 2, End: 1, Name: "a"},
		{Trace: 1, ID: 7, End: most + 1, Name: "a"},
		{Trace: 1, ID: 7},
		{Trace: -1, ID: 7, Name: "a"},
	}
	f := planted(t, at(2, 0, 5))
	for _, s := range bad {
		for place := range 3 {
			l := slices.Insert([]api.Span{at(3, 2, 6), at(2, 0, 5)}, place, s)
			if c, e := f.Add(l...); e != api.ErrSpan || c != (api.Counts{}) || f.Len() != 1 {
				t.Errorf("%+v at %d: %v %v", s, place, c, e)
			}
		}
	}
	if !slices.Equal(f.Spans(), []api.Span{at(2, 0, 5)}) {
		t.Error(f.Spans())
	}
}

// P4.1: of a full forest, Same and Other come ahead of Full, and Full ahead of Cycle.
func TestAddFull(t *testing.T) {
	l := append(chain(63), at(100, 200, 1))
	f := forest.New(1)
	if c, e := f.Add(append(l, at(64, 1, 1), at(65, 1, 1))...); e != api.OK || c != (api.Counts{Added: 64, Full: 2}) {
		t.Fatal(c, e)
	}
	for _, x := range []struct {
		s api.Span
		c api.Counts
	}{
		{at(100, 200, 1), api.Counts{Same: 1}},
		{at(100, 0, 1), api.Counts{Other: 1}},
		{at(300, 0, 1), api.Counts{Full: 1}},
		{at(200, 100, 1), api.Counts{Full: 1}},
	} {
		if c, e := f.Add(x.s); e != api.OK || c != x.c {
			t.Errorf("%+v: %+v %v", x.s, c, e)
		}
	}
	if f.Len() != api.MaxSpans || !slices.Equal(f.Spans(), span.Sort(l...)) {
		t.Error(f.Len())
	}
}

// P4.1, P4.4: rings of any length are seen, whichever span closes them.
func TestCycle(t *testing.T) {
	for n := 2; n <= api.MaxSpans; n++ {
		ring := chain(n)
		ring[0].Parent = n
		for last := range n {
			f := forest.New(1)
			l := append(slices.Concat(ring[last+1:], ring[:last]), ring[last])
			if c, e := f.Add(l...); e != api.OK || c != (api.Counts{Added: n - 1, Cycle: 1}) {
				t.Fatal(n, last, c, e)
			}
			if _, ok := f.Find(ring[last].ID); ok || f.Len() != n-1 {
				t.Fatal(n, last)
			}
		}
	}
}

// P4.1: a span may close gaps above and beneath itself, where no ring comes of it.
func TestNoCycle(t *testing.T) {
	planted(t, at(1, 9, 1), at(2, 1, 1), at(3, 2, 1), at(9, 8, 1), at(8, 0, 1), at(7, 3, 1), at(6, 5, 1))
}

// P4.1: what is found, counted, told.
func TestFindSpansEnd(t *testing.T) {
	f := planted(t, at(4, 9, 3), at(2, 0, 3), at(3, 2, 1), api.Span{Trace: 1, ID: 8, Start: 2, End: 90, Name: "long"}, at(5, 0, 80))
	if s, ok := f.Find(3); !ok || s != at(3, 2, 1) {
		t.Error(s, ok)
	}
	for _, id := range []int{0, 9, -1, math.MinInt, math.MaxInt} {
		if s, ok := f.Find(id); ok || s != (api.Span{}) {
			t.Error(id, s)
		}
	}
	want := []api.Span{at(3, 2, 1), {Trace: 1, ID: 8, Start: 2, End: 90, Name: "long"}, at(2, 0, 3), at(4, 9, 3), at(5, 0, 80)}
	if f.Len() != 5 || !slices.Equal(f.Spans(), want) || f.End() != 90 {
		t.Error(f.Len(), f.Spans(), f.End())
	}
	edge := planted(t, api.Span{Trace: 1, ID: 1, End: most, Name: "a"}, api.Span{Trace: 1, ID: 2, Name: "a"})
	if edge.End() != most || planted(t, api.Span{Trace: 1, ID: 2, Name: "a"}).End() != 0 {
		t.Error(edge.End())
	}
}

// P4.2: the example of the chapter, and what a missing parent does when it comes.
func TestBranches(t *testing.T) {
	f := planted(t, at(2, 0, 1), at(3, 2, 1), at(4, 9, 1))
	want := []api.Branch{{Span: at(2, 0, 1)}, {Depth: 1, Span: at(3, 2, 1)}, {Orphan: true, Span: at(4, 9, 1)}}
	if !slices.Equal(f.Branches(), want) {
		t.Error(f.Branches())
	}
	if c, _ := f.Add(at(9, 4, 1)); c != (api.Counts{Cycle: 1}) || !slices.Equal(f.Branches(), want) {
		t.Error(c, f.Branches())
	}
	f.Add(at(9, 3, 1))
	want[2] = api.Branch{Depth: 2, Span: at(9, 3, 1)}
	want = append(want, api.Branch{Depth: 3, Span: at(4, 9, 1)})
	if !slices.Equal(f.Branches(), want) {
		t.Error(f.Branches())
	}
}

// P4.2: roots ahead of orphans, whenever they began; each row of siblings in its order; what is beneath directly behind.
func TestBranchesOrder(t *testing.T) {
	f := planted(t, at(10, 0, 9), at(11, 0, 8), at(12, 77, 1), at(13, 78, 2), at(14, 77, 1), at(20, 10, 5), at(21, 10, 4), at(22, 10, 5), at(23, 11, 1), at(24, 12, 1), at(30, 21, 9), at(31, 21, 0), at(32, 24, 0))
	want := []api.Branch{
		{Span: at(11, 0, 8)},
		{Depth: 1, Span: at(23, 11, 1)},
		{Span: at(10, 0, 9)},
		{Depth: 1, Span: at(21, 10, 4)},
		{Depth: 2, Span: at(31, 21, 0)},
		{Depth: 2, Span: at(30, 21, 9)},
		{Depth: 1, Span: at(20, 10, 5)},
		{Depth: 1, Span: at(22, 10, 5)},
		{Orphan: true, Span: at(12, 77, 1)},
		{Depth: 1, Span: at(24, 12, 1)},
		{Depth: 2, Span: at(32, 24, 0)},
		{Orphan: true, Span: at(14, 77, 1)},
		{Orphan: true, Span: at(13, 78, 2)},
	}
	for range 20 {
		if !slices.Equal(f.Branches(), want) {
			t.Fatal(f.Branches())
		}
	}
	deep := planted(t, chain(api.MaxSpans)...).Branches()
	for i, x := range deep {
		if x != (api.Branch{Depth: i, Span: at(i+1, i, api.MaxSpans-i)}) {
			t.Fatal(i, x)
		}
	}
}

// P4.2: a clone has the same, and goes its own way.
func TestClone(t *testing.T) {
	f := planted(t, at(2, 0, 1), at(3, 2, 1))
	g := f.Clone()
	if !slices.Equal(g.Spans(), f.Spans()) || !slices.Equal(g.Branches(), f.Branches()) || g.Len() != 2 || g.End() != 3 {
		t.Error(g.Spans())
	}
	g.Add(at(4, 3, 1))
	f.Add(at(5, 3, 9))
	if _, ok := f.Find(4); ok || f.Len() != 3 || f.End() != 11 {
		t.Error(f.Spans())
	}
	if _, ok := g.Find(5); ok || g.Len() != 3 || g.End() != 3 {
		t.Error(g.Spans())
	}
	if _, e := g.Add(api.Span{Trace: 2, ID: 9, Name: "a"}); e != api.ErrSpan {
		t.Error(e)
	}
	empty := forest.New(1).Clone()
	if c, e := empty.Add(at(2, 0, 1)); e != api.OK || c != (api.Counts{Added: 1}) {
		t.Error(c, e)
	}
}

// P4.1, rule Objects: a forest that New did not make.
func TestNotMade(t *testing.T) {
	for _, f := range []*forest.Forest{nil, {}, new(forest.Forest)} {
		for _, l := range [][]api.Span{nil, {at(1, 0, 1)}, {{}}} {
			if c, e := f.Add(l...); e != api.ErrNil || c != (api.Counts{}) {
				t.Error(c, e)
			}
		}
		if s, ok := f.Find(1); ok || s != (api.Span{}) {
			t.Error(s)
		}
		if f.Len() != 0 || f.Spans() != nil || f.End() != 0 || f.Branches() != nil || f.Clone() != nil {
			t.Error("something is there")
		}
	}
}

// Rule Memory: what is handed in stays as it is, and no list that is answered is the forest's.
func TestMemory(t *testing.T) {
	all := []api.Span{at(9, 0, 3), at(8, 9, 2), at(7, 8, 1), at(6, 0, 0), at(5, 0, 0)}
	before := slices.Clone(all)
	f := planted(t, all[:3]...)
	if !slices.Equal(all, before) {
		t.Error("Add changes what is handed in")
	}
	clear(all)
	want := span.Sort(before[:3]...)
	branches := f.Branches()
	if !slices.Equal(f.Spans(), want) || len(branches) != 3 {
		t.Error("Add keeps what is handed in")
	}
	spans := f.Spans()
	clear(spans[:cap(spans)])
	kept := slices.Clone(branches)
	clear(branches[:cap(branches)])
	if !slices.Equal(f.Spans(), want) || !slices.Equal(f.Branches(), kept) {
		t.Error("an answer is the forest's own")
	}
}

// grove is spans as a list, added and told in the plainest way.
type grove []api.Span

// parent is the span beneath which another one stands.
func (g grove) parent(s api.Span) (api.Span, bool) {
	i := slices.IndexFunc(g, func(x api.Span) bool { return x.ID == s.Parent })
	if i < 0 {
		return api.Span{}, false
	}
	return g[i], true
}

// ring tells whether a span stands above itself, by as many steps up as there are spans.
func (g grove) ring(s api.Span) bool {
	x, ok := g.parent(s)
	for range g {
		if ok && x.ID == s.ID {
			return true
		}
		if ok {
			x, ok = g.parent(x)
		}
	}
	return false
}

// add is the grove behind one more span, and what came of it.
func (g grove) add(s api.Span) (grove, api.Counts) {
	for _, x := range g {
		if x.ID == s.ID && x == s {
			return g, api.Counts{Same: 1}
		}
		if x.ID == s.ID {
			return g, api.Counts{Other: 1}
		}
	}
	more := append(slices.Clone(g), s)
	switch {
	case len(g) == api.MaxSpans:
		return g, api.Counts{Full: 1}
	case more.ring(s):
		return g, api.Counts{Cycle: 1}
	}
	return more, api.Counts{Added: 1}
}

// branches is the spans whose parent has a number, sorted, each with what is beneath it.
func (g grove) branches(depth int, parent int, orphan bool) []api.Branch {
	var l []api.Branch
	for _, s := range span.Sort(g...) {
		if s.Parent == parent {
			l = append(l, api.Branch{Depth: depth, Orphan: orphan, Span: s})
			l = append(l, g.branches(depth+1, s.ID, false)...)
		}
	}
	return l
}

// forest is all branches.
func (g grove) forest() []api.Branch {
	l := g.branches(0, 0, false)
	for _, s := range span.Sort(g...) {
		if _, ok := g.parent(s); !ok && s.Parent != 0 {
			l = append(l, api.Branch{Orphan: true, Span: s})
			l = append(l, g.branches(1, s.ID, false)...)
		}
	}
	return l
}

// drawn is a span with a few likely numbers.
func drawn(r *rand.Rand, ids int) api.Span {
	s := at(1+r.Intn(ids), r.Intn(ids+1), r.Intn(3))
	if s.ID == s.Parent {
		s.Parent = 0
	}
	if r.Intn(9) == 0 {
		s.End++
	}
	return s
}

// P4.1 to P4.4: what is added at random, held against the grove.
func TestModel(t *testing.T) {
	r := rand.New(rand.NewSource(1))
	for round := range 300 {
		f, ids := forest.New(1), 2+r.Intn(12)
		if round%10 == 0 {
			ids = 100
		}
		var g grove
		for range 3 * ids {
			s := drawn(r, ids)
			var want api.Counts
			g, want = g.add(s)
			if c, e := f.Add(s); e != api.OK || c != want {
				t.Fatalf("%+v to %+v: %+v, not %+v", s, g, c, want)
			}
		}
		end := 0
		for _, s := range g {
			end = max(end, s.End)
		}
		if f.Len() != len(g) || f.End() != end || !slices.Equal(f.Spans(), span.Sort(g...)) || !slices.Equal(f.Branches(), g.forest()) {
			t.Fatalf("%+v: %+v", g, f.Branches())
		}
		check(t, f)
	}
}

// check holds a forest against P4.3 and P4.4.
func check(t *testing.T, f *forest.Forest) {
	t.Helper()
	var above, l []api.Span
	for _, x := range f.Branches() {
		l = append(l, x.Span)
		if x.Depth > len(above) {
			t.Fatalf("%+v stands too deep", x)
		}
		above = append(above[:x.Depth], x.Span)
		_, there := f.Find(x.Span.Parent)
		if there != (x.Depth > 0) || x.Orphan != (!there && x.Span.Parent != 0) || there && above[x.Depth-1].ID != x.Span.Parent {
			t.Fatalf("%+v stands beneath %+v", x, above)
		}
	}
	if !slices.Equal(span.Sort(l...), f.Spans()) || !slices.Equal(grove(f.Spans()).forest(), f.Branches()) {
		t.Fatal("a span is missing, or there twice")
	}
}

// P4.5, P4.6: in any other order, and again.
func TestAnyOrder(t *testing.T) {
	r := rand.New(rand.NewSource(2))
	for range 300 {
		f := forest.New(1)
		for range 40 {
			f.Add(drawn(r, 20))
		}
		l, want := f.Spans(), f.Branches()
		if c, e := f.Add(l...); e != api.OK || c != (api.Counts{Same: len(l)}) || !slices.Equal(f.Branches(), want) {
			t.Fatal(c, e)
		}
		r.Shuffle(len(l), func(i, j int) { l[i], l[j] = l[j], l[i] })
		g := planted(t, l...)
		if !slices.Equal(g.Branches(), want) {
			t.Fatalf("%+v: %+v, not %+v", l, g.Branches(), want)
		}
	}
}
