package span_test

import (
	"bytes"
	"math"
	"math/rand"
	"slices"
	"strings"
	"testing"

	"spandrel/api"
	"spandrel/span"
	"spandrel/wire"
)

// most is the greatest number that a span may have.
const most = 1 << 40

// good is spans that may be, at the edges of what may be too.
func good() []api.Span {
	return []api.Span{
		{Trace: 1, ID: 2, Start: 5, End: 7, Name: "a"},
		{Trace: 1, ID: 1, Name: "!"},
		{Trace: 1, ID: 1, Parent: 2, Name: "~"},
		{Trace: 7, ID: 2, Parent: 1, Start: 300, End: 300, Name: "same-time"},
		{Trace: most, ID: 1, Parent: most, End: most, Name: strings.Repeat("~", 32)},
		{Trace: 1, ID: most, Parent: most - 1, Start: most, End: most, Name: strings.Repeat("!", 31)},
		{Trace: 128, ID: 127, Parent: 129, Start: 16383, End: 16384, Name: `"\/<>`},
	}
}

// bad is spans each of which can't be for one reason.
func bad() []api.Span {
	var l []api.Span
	for _, turn := range []func(s *api.Span){
		func(s *api.Span) { s.Trace = 0 },
		func(s *api.Span) { s.Trace = -1 },
		func(s *api.Span) { s.Trace = most + 1 },
		func(s *api.Span) { s.Trace = math.MinInt },
		func(s *api.Span) { s.ID = 0 },
		func(s *api.Span) { s.ID = -2 },
		func(s *api.Span) { s.ID = most + 1 },
		func(s *api.Span) { s.ID = math.MaxInt },
		func(s *api.Span) { s.Parent = -1 },
		func(s *api.Span) { s.Parent = most + 1 },
		func(s *api.Span) { s.Parent = s.ID },
		func(s *api.Span) { s.Start = -1 },
		func(s *api.Span) { s.Start, s.End = -2, -1 },
		func(s *api.Span) { s.Start = s.End + 1 },
		func(s *api.Span) { s.End = s.Start - 1 },
		func(s *api.Span) { s.End = -1 },
		func(s *api.Span) { s.End = most + 1 },
		func(s *api.Span) { s.Start, s.End = most+1, most+1 },
		func(s *api.Span) { s.Start, s.End = math.MinInt, math.MaxInt },
		func(s *api.Span) { s.Name = "" },
		func(s *api.Span) { s.Name = strings.Repeat("a", 33) },
		func(s *api.Span) { s.Name = "a b" },
		func(s *api.Span) { s.Name = "ab " },
		func(s *api.Span) { s.Name = "\x7fa" },
		func(s *api.Span) { s.Name = "a\x00" },
		func(s *api.Span) { s.Name = "é" },
		func(s *api.Span) { s.Name = "a\xff" },
	} {
		s := api.Span{Trace: 3, ID: 4, Parent: 5, Start: 6, End: 7, Name: "abc"}
		turn(&s)
		l = append(l, s)
	}
	return append(l, api.Span{})
}

// P3.1: which spans may be.
func TestCheck(t *testing.T) {
	for _, s := range good() {
		if e := span.Check(s); e != api.OK {
			t.Errorf("%+v: %v", s, e)
		}
	}
	for _, s := range bad() {
		if e := span.Check(s); e != api.ErrSpan {
			t.Errorf("%+v: %v", s, e)
		}
	}
}

// P3.1: which bytes a name may have, each of them anywhere in it.
func TestCheckName(t *testing.T) {
	for i := range 256 {
		for _, at := range []int{0, 1, 31} {
			name := bytes.Repeat([]byte{'a'}, 32)
			name[at] = byte(i)
			want := api.ErrSpan
			if i >= 33 && i <= 126 {
				want = api.OK
			}
			if e := span.Check(api.Span{Trace: 1, ID: 1, Name: string(name)}); e != want {
				t.Errorf("byte %d at %d: %v", i, at, e)
			}
		}
	}
}

// bytesOf is a span's bytes, put together here.
func bytesOf(s api.Span) []byte {
	var b []byte
	for _, n := range []int{s.Trace, s.ID, s.Parent, s.Start, s.End - s.Start} {
		b = append(b, wire.Number(nil, n)...)
	}
	return append(append(b, byte(len(s.Name))), s.Name...)
}

// allBytes is the bytes of spans, put together here.
func allBytes(l ...api.Span) []byte {
	b := wire.Number(nil, len(l))
	for _, s := range l {
		b = append(b, bytesOf(s)...)
	}
	return b
}

// P3.1: how many, and each one's bytes.
func TestPut(t *testing.T) {
	b, e := span.Put(good()[0])
	if e != api.OK || !bytes.Equal(b, []byte{1, 1, 2, 0, 5, 2, 1, 'a'}) {
		t.Errorf("% x %v", b, e)
	}
	if b, e := span.Put(); e != api.OK || !bytes.Equal(b, []byte{0}) {
		t.Errorf("% x %v", b, e)
	}
	many := slices.Repeat(good(), 30)
	for n := range many {
		if b, e := span.Put(many[:n]...); e != api.OK || !bytes.Equal(b, allBytes(many[:n]...)) {
			t.Fatalf("%d spans: % x %v", n, b, e)
		}
	}
}

// P3.1: one span that can't be, wherever it stands, and nothing is put.
func TestPutRefuses(t *testing.T) {
	for _, s := range bad() {
		for at := range len(good()) + 1 {
			if b, e := span.Put(slices.Insert(good(), at, s)...); e != api.ErrSpan || b != nil {
				t.Errorf("%+v at %d: % x %v", s, at, b, e)
			}
		}
	}
}

// P3.1, P3.3: what was put is got.
func TestGet(t *testing.T) {
	many := slices.Repeat(good(), 30)
	for n := range many {
		l, e := span.Get(allBytes(many[:n]...))
		if e != api.OK || !slices.Equal(l, many[:n]) {
			t.Fatalf("%d spans: %v %v", n, l, e)
		}
	}
}

// refused tells whether bytes are those of no spans.
func refused(b []byte) bool {
	l, e := span.Get(b)
	return e == api.ErrSpan && l == nil
}

// P3.1: bytes that Put does not make.
func TestGetRefuses(t *testing.T) {
	row := func(l ...int) []byte {
		b := []byte{1}
		for _, n := range l {
			b = wire.Number(b, n)
		}
		return b
	}
	for name, b := range map[string][]byte{
		"nothing":             nil,
		"empty":               {},
		"none, and a byte":    {0, 0},
		"a long nought":       {0x80, 0},
		"a long one":          append([]byte{0x80}, allBytes(good()[0])...),
		"more than there are": append([]byte{2}, bytesOf(good()[0])...),
		"far more":            append(wire.Number(nil, math.MaxInt), bytesOf(good()[0])...),
		"fewer":               append([]byte{1}, slices.Repeat(bytesOf(good()[0]), 2)...),
		"trace 0":             append(row(0, 2, 0, 5, 2, 1), 'a'),
		"trace high":          append(row(most+1, 2, 0, 5, 2, 1), 'a'),
		"ID 0":                append(row(1, 0, 0, 5, 2, 1), 'a'),
		"ID high":             append(row(1, most+1, 0, 5, 2, 1), 'a'),
		"parent itself":       append(row(1, 2, 2, 5, 2, 1), 'a'),
		"parent high":         append(row(1, 2, most+1, 5, 2, 1), 'a'),
		"start high":          append(row(1, 2, 0, most+1, 0, 1), 'a'),
		"end high":            append(row(1, 2, 0, most, 1, 1), 'a'),
		"end beyond numbers":  append(row(1, 2, 0, 5, math.MaxInt, 1), 'a'),
		"both beyond":         append(row(1, 2, 0, math.MaxInt, math.MaxInt, 1), 'a'),
		"end round":           append(row(1, 2, 0, math.MaxInt-3, 5, 1), 'a'),
		"no name":             row(1, 2, 0, 5, 2, 0),
		"a long name":         append(row(1, 2, 0, 5, 2, 33), bytes.Repeat([]byte{'a'}, 33)...),
		"a short name":        append(row(1, 2, 0, 5, 2, 2), 'a'),
		"a blank":             append(row(1, 2, 0, 5, 2, 2), 'a', ' '),
		"a long trace":        {1, 0x80, 1, 2, 0, 5, 2, 1, 'a'},
		"a long name's size":  {1, 1, 2, 0, 5, 2, 0x80, 1, 'a'},
	} {
		if !refused(b) {
			t.Errorf("%s: % x", name, b)
		}
	}
}

// P3.1: no beginning of the bytes is those of spans, and none with something behind it.
func TestGetCut(t *testing.T) {
	b := allBytes(good()...)
	for n := range b {
		if !refused(b[:n]) {
			t.Errorf("%d of %d bytes", n, len(b))
		}
	}
	for _, x := range []byte{0, 1, 0x80, 0xff} {
		if !refused(append(bytes.Clone(b), x)) {
			t.Errorf("%02x behind", x)
		}
	}
}

// P3.3: whatever is got is, put again, the bytes.
func TestOneForm(t *testing.T) {
	r := rand.New(rand.NewSource(1))
	b := allBytes(good()...)
	got := 0
	for range 50000 {
		x := bytes.Clone(b)
		for range 1 + r.Intn(2) {
			x[r.Intn(len(x))] = byte(r.Intn(256))
		}
		l, e := span.Get(x)
		if e == api.ErrSpan && l == nil {
			continue
		}
		got++
		if y, f := span.Put(l...); e != api.OK || f != api.OK || !bytes.Equal(x, y) {
			t.Fatalf("% x: %v %v", x, e, f)
		}
	}
	if got == 0 {
		t.Error("nothing was got")
	}
}

// P3.3: there and back, of spans as they come.
func TestThereAndBack(t *testing.T) {
	r := rand.New(rand.NewSource(2))
	for range 2000 {
		l := make([]api.Span, r.Intn(12))
		for i := range l {
			l[i] = someSpan(r)
		}
		b, e := span.Put(l...)
		got, f := span.Get(b)
		if e != api.OK || f != api.OK || !slices.Equal(l, got) {
			t.Fatalf("%+v: %v %v", l, e, f)
		}
	}
}

// someSpan is one that may be.
func someSpan(r *rand.Rand) api.Span {
	number := func() int { return 1 + r.Intn(most)>>r.Intn(40) }
	s := api.Span{Trace: number(), ID: number(), Parent: number() - 1, Start: number() - 1}
	if s.Parent == s.ID {
		s.Parent = 0
	}
	s.End = s.Start + r.Intn(most-s.Start+1)
	for range 1 + r.Intn(32) {
		s.Name += string(rune(33 + r.Intn(94)))
	}
	return s
}

// ladder is spans in their order, some of which could not be.
func ladder() []api.Span {
	return []api.Span{
		{Trace: math.MinInt, Start: 9, ID: 9, Parent: 9, End: 9, Name: "z"},
		{Trace: -1, Start: math.MaxInt, ID: 9, Parent: 9, End: 9, Name: "z"},
		{},
		{Name: "\x00"},
		{Trace: 1, Start: math.MinInt, ID: 9, Parent: 9, End: 9, Name: "z"},
		{Trace: 1, Start: 1, ID: -9, Parent: 9, End: 9, Name: "z"},
		{Trace: 1, Start: 1, ID: 1, Parent: -5, End: 9, Name: "z"},
		{Trace: 1, Start: 1, ID: 1, Parent: 1, End: math.MinInt, Name: "z"},
		{Trace: 1, Start: 1, ID: 1, Parent: 1, End: 1},
		{Trace: 1, Start: 1, ID: 1, Parent: 1, End: 1, Name: "Z"},
		{Trace: 1, Start: 1, ID: 1, Parent: 1, End: 1, Name: "a"},
		{Trace: 1, Start: 1, ID: 1, Parent: 1, End: 1, Name: "aa"},
		{Trace: 1, Start: 1, ID: 1, Parent: 1, End: 1, Name: "b"},
		{Trace: 1, Start: 1, ID: 1, Parent: 1, End: 1, Name: "~"},
		{Trace: 1, Start: 1, ID: 1, Parent: 1, End: 1, Name: "\xc3\xa9"},
		{Trace: 1, Start: 1, ID: 1, Parent: 1, End: 1, Name: "\xff"},
		{Trace: 1, Start: 1, ID: 1, Parent: 1, End: 2},
		{Trace: 1, Start: 1, ID: 1, Parent: 2},
		{Trace: 1, Start: 1, ID: 2},
		{Trace: 1, Start: 2},
		{Trace: 2},
		{Trace: math.MaxInt, Start: math.MinInt, ID: math.MinInt},
		{Trace: math.MaxInt, Start: math.MaxInt, ID: math.MaxInt},
	}
}

// P3.2, P3.4: who stands ahead of whom; of two unlike ones just one does.
func TestLess(t *testing.T) {
	l := ladder()
	for i := range l {
		for j := range l {
			if span.Less(l[i], l[j]) != (i < j) {
				t.Errorf("%+v, %+v: %v", l[i], l[j], i >= j)
			}
		}
	}
}

// P3.2, P3.4: however they come, they are sorted to one order; what is sorted stays so.
func TestSort(t *testing.T) {
	if l := span.Sort(); len(l) != 0 {
		t.Error(l)
	}
	want := ladder()
	if l := span.Sort(want...); !slices.Equal(l, want) {
		t.Error(l)
	}
	r := rand.New(rand.NewSource(3))
	for range 500 {
		l := ladder()
		r.Shuffle(len(l), func(i, j int) { l[i], l[j] = l[j], l[i] })
		if !slices.Equal(span.Sort(l...), want) {
			t.Fatal(l)
		}
	}
	if l := span.Sort(want[20], want[3], want[20], want[3], want[3]); !slices.Equal(l, []api.Span{want[3], want[3], want[3], want[20], want[20]}) {
		t.Error(l)
	}
}

// Rule Memory: what is handed in stays as it is, its spare room too, and nothing of it is in an answer.
func TestMemory(t *testing.T) {
	all := slices.Repeat([]api.Span{good()[4], good()[0], good()[3]}, 4)
	before := slices.Clone(all)
	l := all[:3]
	sorted := span.Sort(l...)
	clear(sorted[:cap(sorted)])
	b, _ := span.Put(l...)
	if !slices.Equal(all, before) {
		t.Error("Sort or Put changes what is handed in")
	}
	kept := append(bytes.Clone(b), bytes.Repeat([]byte{0xaa}, 50)...)
	given := bytes.Clone(kept)
	got, _ := span.Get(given[:len(b)])
	if !bytes.Equal(given, kept) {
		t.Error("Get changes what is handed in")
	}
	clear(given)
	if !slices.Equal(got, l) {
		t.Error("Get answers what is handed in")
	}
}
