package wal_test

import (
	"bytes"
	"math/rand"
	"slices"
	"strings"
	"testing"

	"spandrel/api"
	"spandrel/wal"
	"spandrel/wire"
)

// raw is a record of a payload.
func raw(p ...byte) []byte {
	b, _ := wire.Record(p)
	return b
}

// alone is a segment that stands alone, of a base and records between.
func alone(index, term int, between ...[]byte) []byte {
	return wire.Join(rec(4, index, term), wire.Join(between...), rec(5))
}

// turned is bytes of which one is another one.
func turned(b []byte, at int) []byte {
	b = bytes.Clone(b)
	b[at] ^= 1
	return b
}

// P5.1: which files are segments; others stay as they are.
func TestOpenNames(t *testing.T) {
	segment := alone(0, 0, rec(1, 5, 1))
	others := []string{"wal.", "wal.1", "wal.000000000000", "wal.00000000001", "wal.0000000000001", "wal.00000000000a", "wal.0000000000.1", "wal000000000001", "xwal.000000000001", "wal..000000000001", "wal.new", "snap.000000000001", "a", "wal.9223371536854775808"}
	for _, name := range others {
		d := laid(t, map[string][]byte{name: segment})
		has(t, open(t, d), says(api.Hard{}, 0, 0))
		if l := d.List(); !slices.Equal(l, []string{name}) {
			t.Error(name, l)
		}
		if b, _ := d.Read(name); !bytes.Equal(b, segment) {
			t.Error(name, b)
		}
	}
	for _, name := range []string{"wal.000000000001", "wal.000000000010", "wal.123456789012", "wal.999999999998"} {
		d := laid(t, map[string][]byte{name: segment})
		has(t, open(t, d), says(api.Hard{Term: 5, Vote: 1}, 0, 0))
		if l := d.List(); !slices.Equal(l, []string{name}) {
			t.Error(name, l)
		}
	}
}

// P5.1: which segments stand alone.
func TestOpenAlone(t *testing.T) {
	a, b := one(entry(4, 2, "a")), one(entry(5, 2, "b"))
	for name, x := range map[string]struct {
		b    []byte
		text string
	}{
		"base alone":     {alone(3, 2), says(api.Hard{}, 3, 2)},
		"a base of most": {alone(most, most), says(api.Hard{}, most, most)},
		"term alone":     {alone(0, 7), says(api.Hard{}, 0, 7)},
		"hard":           {alone(3, 2, rec(1, 5, 6)), says(api.Hard{Term: 5, Vote: 6}, 3, 2)},
		"hard twice":     {alone(3, 2, rec(1, 5, 6), a, rec(1, 2, 0)), says(api.Hard{Term: 2}, 3, 2, entry(4, 2, "a"))},
		"all kinds":      {alone(3, 2, rec(1, 5, 6), a, b, rec(3, 5)), says(api.Hard{Term: 5, Vote: 6}, 3, 2, entry(4, 2, "a"))},
		"cut and again":  {alone(3, 2, a, rec(3, 4), one(entry(4, 9, "c"))), says(api.Hard{}, 3, 2, entry(4, 9, "c"))},
	} {
		d := laid(t, map[string][]byte{seg(2): x.b})
		t.Run(name, func(t *testing.T) { has(t, open(t, d), x.text) })
		holds(t, d, map[int][]byte{2: x.b})
	}
	for name, b := range map[string][]byte{
		"nothing":                nil,
		"no record":              []byte("text"),
		"no base":                wire.Join(rec(1, 1, 1), rec(5)),
		"whole alone":            rec(5),
		"a byte ahead":           wire.Join([]byte{0}, alone(3, 2)),
		"not whole":              wire.Join(rec(4, 3, 2), a),
		"a base alone":           rec(4, 3, 2),
		"torn base":              alone(3, 2)[:5],
		"torn whole":             alone(3, 2)[:len(alone(3, 2))-1],
		"turned base":            turned(alone(3, 2), 3),
		"turned hard":            turned(alone(3, 2, rec(1, 1, 1)), len(rec(4, 3, 2))+4),
		"turned whole":           turned(alone(3, 2), len(alone(3, 2))-1),
		"two bases":              alone(3, 2, rec(4, 3, 2)),
		"another kind":           alone(3, 2, rec(6)),
		"kind nought":            alone(3, 2, rec(0)),
		"an empty payload":       alone(3, 2, raw()),
		"an index too high":      alone(most+1, 2),
		"a term too high":        alone(3, most+1),
		"a base that is short":   wire.Join(rec(4, 3), rec(5)),
		"a base that is long":    wire.Join(rec(4, 3, 2, 1), rec(5)),
		"a whole that is long":   wire.Join(rec(4, 3, 2), rec(5, 0)),
		"a kind in a long form":  wire.Join(raw(0x80, 4, 3, 2), rec(5)),
		"an index in a long one": wire.Join(raw(4, 0x80, 3, 2), rec(5)),
		"an entry that is old":   alone(3, 2, one(entry(3, 2, "a"))),
		"an entry beyond":        alone(3, 2, b),
		"a cut of the base":      alone(3, 2, a, rec(3, 3)),
		"a cut beyond":           alone(3, 2, a, rec(3, 5)),
		"a vote too high":        alone(3, 2, rec(1, 1, 8)),
	} {
		d := laid(t, map[string][]byte{seg(2): b})
		t.Run(name, func(t *testing.T) { has(t, open(t, d), says(api.Hard{}, 0, 0)) })
		holds(t, d, nil)
	}
}

// P5.1: what of the records behind is taken; the segment is trimmed to that.
func TestOpenFits(t *testing.T) {
	a, b := one(entry(4, 2, "a")), one(entry(5, 1, "b"))
	long, longer := strings.Repeat("z", api.MaxData), strings.Repeat("z", api.MaxData+1)
	front := alone(3, 2, rec(1, 7, 7))
	hard := api.Hard{Term: 7, Vote: 7}
	for name, x := range map[string]struct {
		takes, leaves []byte
		text          string
	}{
		"nothing":            {nil, nil, says(hard, 3, 2)},
		"an entry":           {a, nil, says(hard, 3, 2, entry(4, 2, "a"))},
		"a long one":         {one(entry(4, most, long)), nil, says(hard, 3, 2, entry(4, most, long))},
		"a longer one":       {a, one(entry(5, 1, longer)), says(hard, 3, 2, entry(4, 2, "a"))},
		"a bare one":         {one(entry(4, 1, "")), nil, says(hard, 3, 2, entry(4, 1, ""))},
		"two":                {wire.Join(a, b), nil, says(hard, 3, 2, entry(4, 2, "a"), entry(5, 1, "b"))},
		"the same again":     {a, wire.Join(a, b), says(hard, 3, 2, entry(4, 2, "a"))},
		"one beyond":         {nil, wire.Join(b, a), says(hard, 3, 2)},
		"no term":            {nil, wire.Join(one(entry(4, 0, "a")), a), says(hard, 3, 2)},
		"a term too high":    {nil, wire.Join(one(entry(4, most+1, "a")), a), says(hard, 3, 2)},
		"more than an entry": {nil, wire.Join(raw(2, 4, 2, 1, 'a', 0), a), says(hard, 3, 2)},
		"less than an entry": {nil, wire.Join(raw(2, 4, 2), a), says(hard, 3, 2)},
		"a short text":       {nil, wire.Join(raw(2, 4, 2, 2, 'a'), a), says(hard, 3, 2)},
		"a cut":              {wire.Join(a, b, rec(3, 4)), nil, says(hard, 3, 2)},
		"a cut of the last":  {wire.Join(a, b, rec(3, 5)), nil, says(hard, 3, 2, entry(4, 2, "a"))},
		"a cut of no entry":  {nil, wire.Join(rec(3, 4), a), says(hard, 3, 2)},
		"a cut of the base":  {a, wire.Join(rec(3, 3), b), says(hard, 3, 2, entry(4, 2, "a"))},
		"a cut beyond":       {a, wire.Join(rec(3, 5), b), says(hard, 3, 2, entry(4, 2, "a"))},
		"a long cut":         {a, wire.Join(rec(3, 4, 4), b), says(hard, 3, 2, entry(4, 2, "a"))},
		"a short cut":        {a, wire.Join(rec(3), b), says(hard, 3, 2, entry(4, 2, "a"))},
		"a hard":             {wire.Join(rec(1, 2, 0), rec(1, most, 7)), nil, says(api.Hard{Term: most, Vote: 7}, 3, 2)},
		"a vote too high":    {a, wire.Join(rec(1, 2, 8), b), says(hard, 3, 2, entry(4, 2, "a"))},
		"a hard too high":    {a, wire.Join(rec(1, most+1, 0), b), says(hard, 3, 2, entry(4, 2, "a"))},
		"a long hard":        {a, wire.Join(rec(1, 2, 1, 0), b), says(hard, 3, 2, entry(4, 2, "a"))},
		"a short hard":       {a, wire.Join(rec(1, 2), b), says(hard, 3, 2, entry(4, 2, "a"))},
		"a base":             {a, wire.Join(rec(4, 4, 2), b), says(hard, 3, 2, entry(4, 2, "a"))},
		"another whole":      {a, wire.Join(rec(5), b), says(hard, 3, 2, entry(4, 2, "a"))},
		"another kind":       {a, wire.Join(rec(6), b), says(hard, 3, 2, entry(4, 2, "a"))},
		"an empty payload":   {a, wire.Join(raw(), b), says(hard, 3, 2, entry(4, 2, "a"))},
		"half a record":      {a, b[:len(b)-1], says(hard, 3, 2, entry(4, 2, "a"))},
		"a byte":             {a, []byte{0x5d}, says(hard, 3, 2, entry(4, 2, "a"))},
		"a turned byte":      {a, wire.Join(turned(b, 3), rec(1, 1, 1)), says(hard, 3, 2, entry(4, 2, "a"))},
	} {
		t.Run(name, func(t *testing.T) {
			d := laid(t, map[string][]byte{seg(2): wire.Join(front, x.takes, x.leaves)})
			has(t, open(t, d), x.text)
			holds(t, d, map[int][]byte{2: wire.Join(front, x.takes)})
			want(t, d.Crash(0, 0), d.Start())
			holds(t, d, map[int][]byte{2: wire.Join(front, x.takes)})
			d = laid(t, map[string][]byte{seg(2): front, seg(3): wire.Join(x.takes, x.leaves)})
			has(t, open(t, d), x.text)
			if len(x.takes) == 0 {
				holds(t, d, map[int][]byte{2: front})
			} else {
				holds(t, d, map[int][]byte{2: front, 3: x.takes})
			}
		})
	}
}

// P5.1: with which segment the log begins, and which are its further ones.
func TestOpenChoice(t *testing.T) {
	whole := func(n int) []byte { return alone(n, 1, rec(1, n, 0)) }
	put := func(n int) []byte { return rec(1, n, 7) }
	is := func(base, term, vote int) string { return says(api.Hard{Term: term, Vote: vote}, base, 1) }
	for name, x := range map[string]struct {
		files, left map[int][]byte
		text        string
	}{
		"the greatest": {map[int][]byte{1: whole(1), 2: whole(2), 9: whole(9)}, map[int][]byte{9: whole(9)}, is(9, 9, 0)},
		"with further ones": {map[int][]byte{1: whole(1), 2: put(2), 3: wire.Join(put(3), put(4)), 4: put(5)},
			map[int][]byte{1: whole(1), 2: put(2), 3: wire.Join(put(3), put(4)), 4: put(5)}, is(1, 5, 7)},
		"ahead of it":        {map[int][]byte{1: whole(1), 2: put(2), 3: whole(3), 4: put(4)}, map[int][]byte{3: whole(3), 4: put(4)}, is(3, 4, 7)},
		"a gap":              {map[int][]byte{1: whole(1), 3: put(3)}, map[int][]byte{1: whole(1)}, is(1, 1, 0)},
		"a gap later":        {map[int][]byte{1: whole(1), 2: put(2), 4: put(4), 5: put(5)}, map[int][]byte{1: whole(1), 2: put(2)}, is(1, 2, 7)},
		"bytes left":         {map[int][]byte{1: wire.Join(whole(1), []byte{9}), 2: put(2)}, map[int][]byte{1: whole(1)}, is(1, 1, 0)},
		"bytes left later":   {map[int][]byte{1: whole(1), 2: wire.Join(put(2), put(3)[:3]), 3: put(4)}, map[int][]byte{1: whole(1), 2: put(2)}, is(1, 2, 7)},
		"none alone":         {map[int][]byte{1: put(1), 2: put(2), 7: nil}, nil, says(api.Hard{}, 0, 0)},
		"one begun":          {map[int][]byte{1: whole(1), 2: put(2), 3: whole(3)[:9]}, map[int][]byte{1: whole(1), 2: put(2)}, is(1, 2, 7)},
		"one begun, others":  {map[int][]byte{1: whole(1), 2: rec(4, 8, 1), 3: put(3)}, map[int][]byte{1: whole(1)}, is(1, 1, 0)},
		"an empty one":       {map[int][]byte{1: whole(1), 2: nil}, map[int][]byte{1: whole(1)}, is(1, 1, 0)},
		"an empty one ahead": {map[int][]byte{1: whole(1), 2: nil, 3: put(3)}, map[int][]byte{1: whole(1)}, is(1, 1, 0)},
		"far ones":           {map[int][]byte{99999: whole(1), 100000: put(2), 999999999998: put(3)}, map[int][]byte{99999: whole(1), 100000: put(2)}, is(1, 2, 7)},
	} {
		t.Run(name, func(t *testing.T) {
			files := map[string][]byte{}
			for n, b := range x.files {
				files[seg(n)] = b
			}
			d := laid(t, files)
			l := open(t, d)
			has(t, l, x.text)
			if d.Pending() != 0 {
				t.Error(d.Pending())
			}
			holds(t, d, x.left)
			has(t, open(t, d), x.text)
			want(t, l.Put(api.Hard{Term: 100}))
			index, term := l.Base()
			has(t, open(t, d), says(api.Hard{Term: 100}, index, term))
		})
	}
}

// P5.1: entries that go on from one segment to the next one.
func TestOpenGoesOn(t *testing.T) {
	l := row(1, 6, 2)
	d := laid(t, map[string][]byte{
		seg(4): wire.Join(alone(0, 0, one(l[0])), one(l[1])),
		seg(5): wire.Join(one(l[2]), one(l[3]), one(l[4]), rec(3, 4)),
		seg(6): wire.Join(one(l[3]), one(l[5]), one(l[4])),
		seg(7): one(l[4]),
	})
	has(t, open(t, d), says(api.Hard{}, 0, 0, l[:4]...))
	holds(t, d, map[int][]byte{
		4: wire.Join(alone(0, 0, one(l[0])), one(l[1])),
		5: wire.Join(one(l[2]), one(l[3]), one(l[4]), rec(3, 4)),
		6: one(l[3]),
	})
}

// P5.1: other segments are dropped by rising numbers, then the last one is trimmed, then the disk is synced; whatever of it is struck is told.
func TestOpenActs(t *testing.T) {
	left := wire.Join(alone(0, 0, rec(1, 3, 3)), rec(1, 4, 4))
	files := map[string][]byte{seg(1): alone(0, 0), seg(2): rec(1, 1, 1), seg(4): wire.Join(left, []byte{1, 2, 3}), seg(5): rec(1, 9, 1), seg(7): nil}
	first := laid(t, files)
	for n, names := range [][]string{
		{seg(2), seg(4), seg(5), seg(7)},
		{seg(4), seg(5), seg(7)},
		{seg(4), seg(7)},
		{seg(4)},
		{seg(4)},
		{seg(4)},
	} {
		d := first.Clone()
		want(t, d.Arm(n+1, 100, 0))
		if l, e := wal.Open(d); l != nil || e != api.ErrDown {
			t.Error(n, e)
		}
		want(t, d.Start())
		if l := d.List(); !slices.Equal(l, names) {
			t.Error(n, l, names)
		}
		b, _ := d.Read(seg(4))
		if trimmed := bytes.Equal(b, left); trimmed != (n >= 4) {
			t.Error(n, b)
		}
		has(t, open(t, d), says(api.Hard{Term: 4, Vote: 4}, 0, 0))
	}
	d := first.Clone()
	want(t, d.Arm(7, 0, 0))
	has(t, open(t, d), says(api.Hard{Term: 4, Vote: 4}, 0, 0))
	holds(t, d, map[int][]byte{4: left})
}

// P5.1: whatever a disk has, Open ends, and what it left is what it opens again.
func TestOpenJunk(t *testing.T) {
	r := rand.New(rand.NewSource(51))
	pool := [][]byte{rec(1, 1, 1), rec(1, 2, 9), rec(4, 0, 0), rec(4, 2, 1), rec(5), rec(5), rec(3, 1), rec(3, 2), one(entry(1, 1, "a")), one(entry(2, 1, "b")), one(entry(3, 2, "c")), {0x5d}, raw(), rec(7)}
	for range 3000 {
		files := map[string][]byte{}
		for range r.Intn(5) {
			b := pool[2+r.Intn(2)]
			if r.Intn(3) == 0 {
				b = nil
			}
			for range r.Intn(6) {
				b = wire.Join(b, pool[r.Intn(len(pool))])
			}
			if r.Intn(4) == 0 && len(b) > 0 {
				b = turned(b, r.Intn(len(b)))
			}
			files[seg(1+r.Intn(5))] = b
		}
		d := laid(t, files)
		l := open(t, d)
		again := d.Clone()
		has(t, open(t, again), tell(l))
		if !slices.Equal(d.List(), again.List()) || d.Used() != again.Used() {
			t.Fatal(d.List(), again.List())
		}
		want(t, l.Put(api.Hard{Term: 77}), l.Append(entry(lastOf(l)+1, 7, "new")))
		has(t, open(t, d), tell(l))
	}
}

// lastOf is a log's last index.
func lastOf(l *wal.Log) int {
	index, _ := l.Base()
	return index + len(l.Entries())
}
