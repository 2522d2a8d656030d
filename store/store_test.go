package store_test

import (
	"bytes"
	"math"
	"math/rand"
	"slices"
	"testing"

	"spandrel/api"
	"spandrel/forest"
	"spandrel/near"
	"spandrel/span"
	"spandrel/store"
	"spandrel/wire"
)

// most is the greatest number of a trace or of a span, and the greatest time.
const most = 1 << 40

// at is a span of a trace, that ends at a time.
func at(trace, id, parent, end int) api.Span {
	return api.Span{Trace: trace, ID: id, Parent: parent, Start: min(end, 1), End: end, Name: "work"}
}

// filled is a store to which spans were added, none of them in vain.
func filled(t *testing.T, l ...api.Span) *store.Store {
	t.Helper()
	s := store.New()
	ingest(t, s, api.Counts{Added: len(l)}, l...)
	return s
}

// ingest puts spans in, of which just that is to come.
func ingest(t *testing.T, s *store.Store, want api.Counts, l ...api.Span) {
	t.Helper()
	if c, e := s.Ingest(l...); e != api.OK || c != want {
		t.Fatalf("%+v %v, not %+v", c, e, want)
	}
}

// holds tells whether a store has just these spans.
func holds(t *testing.T, s *store.Store, l ...api.Span) {
	t.Helper()
	forests := map[int]*forest.Forest{}
	var traces []int
	for _, x := range span.Sort(l...) {
		if forests[x.Trace] == nil {
			forests[x.Trace] = forest.New(x.Trace)
			traces = append(traces, x.Trace)
		}
		forests[x.Trace].Add(x)
	}
	if !slices.Equal(s.Traces(), traces) {
		t.Fatal(s.Traces(), "not", traces)
	}
	for trace := range 40 {
		if !slices.Equal(s.Lookup(trace), forests[trace].Branches()) {
			t.Fatal(trace, s.Lookup(trace))
		}
	}
	if !bytes.Equal(s.Image(), image(l...)) {
		t.Fatal(s.Image())
	}
}

// image is the bytes of a store of some spans.
func image(l ...api.Span) []byte {
	var texts [][]byte
	for _, x := range span.Sort(l...) {
		l := slices.DeleteFunc(span.Sort(l...), func(y api.Span) bool { return y.Trace != x.Trace })
		if l[0] == x {
			texts = append(texts, text(l...))
		}
	}
	return joined(len(texts), texts...)
}

// text is a trace's spans as they come, as a text.
func text(l ...api.Span) []byte {
	b, _ := span.Put(l...)
	return wire.Text(nil, string(b))
}

// joined is a number, and bytes behind it.
func joined(n int, parts ...[]byte) []byte {
	return append(wire.Number(nil, n), bytes.Join(parts, nil)...)
}

// many is a span of each of so many traces, from 1 on.
func many(n int) []api.Span {
	var l []api.Span
	for i := range n {
		l = append(l, at(i+1, 7, 0, 10+i))
	}
	return l
}

// The chapter's example.
func TestExample(t *testing.T) {
	s := filled(t, api.Span{Trace: 1, ID: 2, Start: 5, End: 7, Name: "a"})
	if n := s.Retain(7); n != 0 || len(s.Traces()) != 1 {
		t.Error(n, s.Traces())
	}
	if n := s.Retain(8); n != 1 || s.Traces() != nil {
		t.Error(n, s.Traces())
	}
	if b := store.New().Image(); !bytes.Equal(b, []byte{0}) || !bytes.Equal(s.Image(), b) {
		t.Error(b, s.Image())
	}
}

// P7.1: what came of each span, in all.
func TestIngest(t *testing.T) {
	s := filled(t, at(2, 1, 0, 5), at(1, 1, 0, 4), at(2, 3, 1, 6))
	holds(t, s, at(1, 1, 0, 4), at(2, 1, 0, 5), at(2, 3, 1, 6))
	ingest(t, s, api.Counts{})
	ingest(t, s, api.Counts{}, []api.Span{}...)
	ingest(t, s, api.Counts{Added: 3, Same: 2, Other: 1, Cycle: 2},
		at(2, 3, 1, 6), at(2, 3, 0, 6), at(3, 4, 9, 1), at(3, 9, 4, 1), at(3, 4, 9, 1), at(3, 9, 5, 1), at(3, 5, 9, 1), at(1, 3, 1, 6))
	holds(t, s, at(1, 1, 0, 4), at(2, 1, 0, 5), at(2, 3, 1, 6), at(3, 4, 9, 1), at(3, 9, 5, 1), at(1, 3, 1, 6))
}

// P7.1: one span that may not be, wherever it stands, and none is put in.
func TestIngestRefuses(t *testing.T) {
	bad := []api.Span{
		{},
		at(0, 1, 0, 5),
		at(-1, 1, 0, 5),
		at(most+1, 1, 0, 5),
		at(1, 0, 0, 5),
		at(1, 2, 2, 5),
		at(1, 2, -1, 5),
		at(1, 2, 0, most+1),
		{Trace: 1, ID: 2},
		{Trace: 1, ID: 2, Start: 2, End: 1, Name: "a"},
		{Trace: 1, ID: 2, Name: "a b"},
	}
	s := filled(t, at(2, 1, 0, 5))
	for _, x := range bad {
		for place := range 3 {
			l := slices.Insert([]api.Span{at(1, 1, 0, 5), at(2, 1, 0, 5)}, place, x)
			if c, e := s.Ingest(l...); e != api.ErrSpan || c != (api.Counts{}) {
				t.Errorf("%+v: %+v %v", x, c, e)
			}
		}
	}
	holds(t, s, at(2, 1, 0, 5))
}

// P7.1, P7.7: of a full store, spans of further traces are Full, and those of traces that it has are not.
func TestIngestFull(t *testing.T) {
	l := many(api.MaxTraces)
	s := store.New()
	ingest(t, s, api.Counts{Added: 32, Full: 2}, append(l, at(33, 7, 0, 1), at(most, 7, 0, 1))...)
	holds(t, s, l...)
	ingest(t, s, api.Counts{Full: 2}, at(33, 7, 0, 1), at(33, 7, 0, 2))
	ingest(t, s, api.Counts{Added: 1, Same: 1, Other: 1, Full: 1}, at(32, 8, 7, 1), l[0], at(33, 1, 0, 1), at(1, 7, 0, 1))
	holds(t, s, append(l, at(32, 8, 7, 1))...)
	if n := s.Retain(11); n != 1 {
		t.Error(n)
	}
	ingest(t, s, api.Counts{Added: 1, Full: 1}, at(34, 7, 0, 1), at(33, 7, 0, 1))
	holds(t, s, append(l[1:], at(32, 8, 7, 1), at(34, 7, 0, 1))...)
}

// P7.1, P7.7: of a full trace, further spans are Full; other traces take theirs.
func TestIngestFullTrace(t *testing.T) {
	var l []api.Span
	for i := range api.MaxSpans {
		l = append(l, at(1, i+1, i, 9))
	}
	s := store.New()
	ingest(t, s, api.Counts{Added: 65, Same: 1, Other: 1, Full: 2}, append(l, at(1, 65, 0, 9), at(2, 65, 0, 9), at(1, 65, 0, 9), at(1, 3, 2, 9), at(1, 3, 1, 9))...)
	holds(t, s, append(l, at(2, 65, 0, 9))...)
}

// P7.1: what is told of a trace, and of one that is not there.
func TestLookup(t *testing.T) {
	s := filled(t, at(3, 1, 0, 5), at(3, 2, 1, 5), at(3, 4, 9, 5), at(most, most, 0, most))
	want := []api.Branch{{Span: at(3, 1, 0, 5)}, {Depth: 1, Span: at(3, 2, 1, 5)}, {Orphan: true, Span: at(3, 4, 9, 5)}}
	if !slices.Equal(s.Lookup(3), want) || len(s.Lookup(most)) != 1 {
		t.Error(s.Lookup(3), s.Lookup(most))
	}
	for _, trace := range []int{0, 1, 2, 4, -1, most + 1, math.MinInt, math.MaxInt} {
		if s.Lookup(trace) != nil {
			t.Error(trace, s.Lookup(trace))
		}
	}
	if !slices.Equal(s.Traces(), []int{3, most}) || len(s.Lookup(1)) != 0 {
		t.Error(s.Traces(), "a look laid a trace")
	}
}

// P7.2: the traces go whose last end is below the time, and no others.
func TestRetain(t *testing.T) {
	l := []api.Span{at(1, 1, 0, 5), at(1, 2, 0, 9), at(2, 1, 0, 8), at(3, 1, 0, 10), at(3, 2, 0, 1), at(4, 1, 0, 0), at(5, 1, 0, most)}
	s := filled(t, l...)
	for _, x := range []struct{ from, gone, left int }{
		{math.MinInt, 0, 5}, {-1, 0, 5}, {0, 0, 5}, {1, 1, 4}, {1, 0, 4}, {8, 0, 4}, {9, 1, 3}, {10, 1, 2}, {most, 1, 1}, {most, 0, 1},
	} {
		if n := s.Retain(x.from); n != x.gone || len(s.Traces()) != x.left {
			t.Error(x, n, s.Traces())
		}
	}
	if !slices.Equal(s.Traces(), []int{5}) || s.Retain(most+1) != 1 || s.Traces() != nil {
		t.Error(s.Traces())
	}
	all := filled(t, l...)
	if n := all.Retain(math.MaxInt); n != 5 || all.Retain(math.MaxInt) != 0 || all.Lookup(1) != nil {
		t.Error(n)
	}
	holds(t, all)
	ingest(t, all, api.Counts{Added: 1}, at(1, 1, 2, 3))
	holds(t, all, at(1, 1, 2, 3))
}

// P7.3: the bytes of a store, spelt out.
func TestImage(t *testing.T) {
	s := filled(t, api.Span{Trace: 300, ID: 1, Start: 1, End: 1, Name: "b"}, api.Span{Trace: 2, ID: 9, Parent: 7, Start: 5, End: 7, Name: "xy"}, api.Span{Trace: 2, ID: 7, Start: 5, End: 5, Name: "a"})
	want := []byte{2, 16, 2, 2, 7, 0, 5, 0, 1, 'a', 2, 9, 7, 5, 2, 2, 'x', 'y', 9, 1, 0x82, 0x2c, 1, 0, 1, 0, 1, 'b'}
	if !bytes.Equal(s.Image(), want) {
		t.Error(s.Image())
	}
	l, e := store.Load(want)
	if e != api.OK || !bytes.Equal(l.Image(), want) || !slices.Equal(l.Lookup(2), s.Lookup(2)) || !slices.Equal(l.Traces(), s.Traces()) {
		t.Error(e)
	}
}

// P7.3: bytes that are no store's.
func TestLoadRefuses(t *testing.T) {
	one, two := at(1, 1, 0, 5), at(2, 1, 0, 5)
	full := many(api.MaxTraces)
	var tower []api.Span
	for i := range api.MaxSpans {
		tower = append(tower, api.Span{Trace: 1, ID: i + 1, Parent: i, Start: i, End: i, Name: "t"})
	}
	for _, b := range [][]byte{image(), image(one), image(one, two), image(full...), image(tower...)} {
		if s, e := store.Load(b); e != api.OK || !bytes.Equal(s.Image(), b) {
			t.Error("not loaded", e)
		}
	}
	texts := func(l []api.Span) [][]byte {
		var parts [][]byte
		for _, x := range l {
			parts = append(parts, text(x))
		}
		return parts
	}
	for name, b := range map[string][]byte{
		"nothing":                   nil,
		"empty":                     {},
		"further bytes":             append(image(one), 0),
		"further bytes behind none": {0, 0},
		"a long number":             {0x80, 0},
		"too few traces":            joined(2, text(one)),
		"too many traces":           joined(1, text(one), text(two)),
		"a huge count":              joined(math.MaxInt, text(one)),
		"no number":                 bytes.Repeat([]byte{0xff}, 12),
		"a trace without spans":     joined(1, text()),
		"one more without spans":    joined(2, text(one), text()),
		"falling traces":            joined(2, text(two), text(one)),
		"a trace twice":             joined(2, text(one), text(one)),
		"a trace in parts":          joined(2, text(one), text(at(1, 2, 0, 5))),
		"two traces in one":         joined(1, text(one, two)),
		"spans in another order":    joined(1, text(at(1, 2, 0, 5), one)),
		"a span twice":              joined(1, text(one, one)),
		"two spans of one number":   joined(1, text(one, at(1, 1, 2, 5))),
		"a ring":                    joined(1, text(at(1, 3, 4, 5), at(1, 4, 3, 5))),
		"33 traces":                 joined(33, texts(many(33))...),
		"32 and a further one":      joined(33, append(texts(full), text(at(40, 1, 0, 1)))...),
		"65 spans":                  joined(1, text(append(tower, api.Span{Trace: 1, ID: 65, Start: 99, End: 99, Name: "t"})...)),
		"a text that is cut off":    {1, 3, 1, 1},
		"a text that is no spans":   {1, 3, 1, 1, 1},
		"more behind the spans":     joined(1, wire.Text(nil, string(append(text(one)[1:], 0)))),
	} {
		if s, e := store.Load(b); s != nil || e != api.ErrStore {
			t.Error(name, e)
		}
	}
}

// P7.3, P7.4: an image that is cut off, or has another byte or one more, is none, or another store's own.
func TestLoadTurned(t *testing.T) {
	b := image(at(1, 1, 0, 5), at(1, 2, 1, 500), at(2, 9, 3, 7), at(200, 1, 0, 7))
	for _, stray := range near.Strays(b, api.ErrStore, func(b []byte) ([]byte, api.Errno) {
		s, e := store.Load(b)
		return s.Image(), e
	}) {
		t.Error(stray)
	}
}

// P7.3, P7.4: a clone and a store that was loaded tell the same, and each goes its own way.
func TestApart(t *testing.T) {
	l := []api.Span{at(1, 1, 0, 5), at(2, 1, 0, 9)}
	s := filled(t, l...)
	c := s.Clone()
	o, e := store.Load(s.Image())
	if e != api.OK {
		t.Fatal(e)
	}
	ingest(t, s, api.Counts{Added: 1}, at(1, 2, 0, 5))
	ingest(t, c, api.Counts{Added: 2}, at(1, 2, 1, 6), at(3, 2, 1, 6))
	if o.Retain(6) != 1 {
		t.Error(o.Traces())
	}
	holds(t, s, append(l, at(1, 2, 0, 5))...)
	holds(t, c, append(l, at(1, 2, 1, 6), at(3, 2, 1, 6))...)
	holds(t, o, l[1])
	holds(t, store.New())
}

// P7.5: spans of one trace, whatever comes of them, and traces that go, leave others as they were.
func TestTracesApart(t *testing.T) {
	s := filled(t, at(1, 1, 0, 50), at(2, 1, 0, 5), at(2, 2, 1, 5))
	was := s.Lookup(2)
	ingest(t, s, api.Counts{Added: 2, Same: 1, Other: 1, Cycle: 1}, at(1, 2, 3, 5), at(1, 3, 2, 5), at(1, 1, 0, 50), at(1, 1, 2, 50), at(3, 2, 0, 1))
	s.Retain(2)
	if !slices.Equal(s.Lookup(2), was) || !slices.Equal(s.Traces(), []int{1, 2}) {
		t.Error(s.Lookup(2), s.Traces())
	}
}

// DOC.md, Memory: what is handed in is neither changed nor kept, and answers are new.
func TestMemory(t *testing.T) {
	l := []api.Span{at(2, 1, 0, 5), at(1, 1, 0, 5), at(1, 2, 1, 5), {}}
	given := slices.Clone(l)
	s := filled(t, l[:3]...)
	if !slices.Equal(l, given) {
		t.Fatal(l)
	}
	clear(l)
	b := s.Image()
	o, _ := store.Load(b)
	for i := range 2 {
		clear(s.Traces()[:cap(s.Traces())])
		lookup := s.Lookup(1)
		clear(lookup[:cap(lookup)])
		image := s.Image()
		clear(image[:cap(image)])
		if i == 0 {
			clear(b)
		}
	}
	holds(t, s, given[:3]...)
	holds(t, o, given[:3]...)
}

// P7.3; DOC.md, Objects: stores that no call made.
func TestNoStore(t *testing.T) {
	for _, s := range []*store.Store{nil, {}} {
		for _, l := range [][]api.Span{nil, {{}}, {at(1, 1, 0, 5)}} {
			if c, e := s.Ingest(l...); e != api.ErrNil || c != (api.Counts{}) {
				t.Error(c, e)
			}
		}
		if s.Retain(math.MaxInt) != 0 || s.Lookup(1) != nil || s.Traces() != nil || s.Image() != nil || s.Clone() != nil {
			t.Error("a store that no call made tells something")
		}
	}
}

// plain is spans as they came; each was Added.
type plain []api.Span

// put is what comes of a span, found by going through all.
func (p *plain) put(x api.Span) api.Counts {
	spans, traces := 0, map[int]int{}
	for _, y := range *p {
		traces[y.Trace]++
		if y.Trace != x.Trace {
			continue
		}
		spans++
		if y == x {
			return api.Counts{Same: 1}
		}
		if y.ID == x.ID {
			return api.Counts{Other: 1}
		}
	}
	if spans == 0 && len(traces) == 32 || spans == 64 {
		return api.Counts{Full: 1}
	}
	for up := x.Parent; up != 0; {
		at := slices.IndexFunc(*p, func(y api.Span) bool { return y.Trace == x.Trace && y.ID == up })
		if up == x.ID {
			return api.Counts{Cycle: 1}
		}
		if at < 0 {
			break
		}
		up = (*p)[at].Parent
	}
	*p = append(*p, x)
	return api.Counts{Added: 1}
}

// retain drops the traces without a span that ends at the time or behind it.
func (p *plain) retain(from int) int {
	stay, all := map[int]bool{}, map[int]bool{}
	for _, x := range *p {
		all[x.Trace] = true
		stay[x.Trace] = stay[x.Trace] || x.End >= from
	}
	was := len(all)
	*p = slices.DeleteFunc(*p, func(x api.Span) bool { return !stay[x.Trace] })
	clear(all)
	for _, x := range *p {
		all[x.Trace] = true
	}
	return was - len(all)
}

// add is two counts together.
func add(a, b api.Counts) api.Counts {
	return api.Counts{Added: a.Added + b.Added, Same: a.Same + b.Same, Other: a.Other + b.Other, Cycle: a.Cycle + b.Cycle, Full: a.Full + b.Full}
}

// some is spans drawn at random, of few traces and few numbers.
func some(r *rand.Rand, traces int) []api.Span {
	l := make([]api.Span, r.Intn(12))
	for i := range l {
		id := 1 + r.Intn(70)
		l[i] = at(1+r.Intn(traces), id, (id+1+r.Intn(69))%71, r.Intn(4))
	}
	return l
}

// P7.1 to P7.8: random calls, held against spans in a plain list; what is put in again is Same; parts come to what all come to at once.
func TestRandom(t *testing.T) {
	for seed := range 40 {
		r := rand.New(rand.NewSource(int64(seed)))
		traces := []int{1, 3, 36}[seed%3]
		s := store.New()
		var p plain
		for range 80 {
			l := some(r, traces)
			var want api.Counts
			for _, x := range l {
				want = add(want, p.put(x))
			}
			parts := inParts(t, s.Clone(), want, r.Intn(len(l)+1), l)
			ingest(t, s, want, l...)
			if !bytes.Equal(parts, s.Image()) {
				t.Fatal("parts come to another store")
			}
			ingest(t, s, api.Counts{Same: len(p)}, p...)
			if n := want.Added + want.Same + want.Other + want.Cycle + want.Full; n != len(l) {
				t.Fatal(n, "counted, not", len(l))
			}
			if r.Intn(20) == 0 {
				from := r.Intn(5)
				if n, gone := s.Retain(from), p.retain(from); n != gone {
					t.Fatal(n, gone)
				}
			}
			if r.Intn(4) == 0 {
				s = again(t, s, r)
			}
		}
		holds(t, s, p...)
	}
}

// inParts puts spans in, cut somewhere, of which in all just that is to come: the store's image.
func inParts(t *testing.T, s *store.Store, want api.Counts, cut int, l []api.Span) []byte {
	t.Helper()
	a, e := s.Ingest(l[:cut]...)
	b, e2 := s.Ingest(l[cut:]...)
	if e != api.OK || e2 != api.OK || add(a, b) != want {
		t.Fatal(a, b, want)
	}
	return s.Image()
}

// again is a store in another way: a clone, or loaded.
func again(t *testing.T, s *store.Store, r *rand.Rand) *store.Store {
	t.Helper()
	if r.Intn(2) == 0 {
		return s.Clone()
	}
	o, e := store.Load(s.Image())
	if e != api.OK {
		t.Fatal(e)
	}
	return o
}
