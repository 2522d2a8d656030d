package wire_test

import (
	"bytes"
	"hash/crc32"
	"math"
	"math/bits"
	"math/rand"
	"testing"

	"spandrel/wire"
)

// numbers are numbers at the edges of their groups, with their bytes.
var numbers = []struct {
	n int
	b []byte
}{
	{0, []byte{0}},
	{1, []byte{1}},
	{127, []byte{127}},
	{128, []byte{0x81, 0}},
	{300, []byte{0x82, 0x2c}},
	{1<<14 - 1, []byte{0xff, 0x7f}},
	{1 << 14, []byte{0x81, 0x80, 0}},
	{1 << 40, []byte{0xa0, 0x80, 0x80, 0x80, 0x80, 0}},
	{1<<56 - 1, []byte{255, 255, 255, 255, 255, 255, 255, 127}},
	{1 << 56, []byte{0x81, 0x80, 0x80, 0x80, 0x80, 0x80, 0x80, 0x80, 0}},
	{math.MaxInt, []byte{255, 255, 255, 255, 255, 255, 255, 255, 127}},
}

// P1.1: a number's groups, as few as there may be, behind what was there.
func TestNumber(t *testing.T) {
	for _, x := range numbers {
		if b := wire.Number(nil, x.n); !bytes.Equal(b, x.b) {
			t.Errorf("Number(nil, %d): % x", x.n, b)
		}
		if b := wire.Number([]byte{7, 8}, x.n); !bytes.Equal(b, append([]byte{7, 8}, x.b...)) {
			t.Errorf("Number(7 8, %d): % x", x.n, b)
		}
	}
	for _, n := range []int{-1, -128, math.MinInt} {
		if b := wire.Number([]byte{9}, n); !bytes.Equal(b, []byte{9, 0}) {
			t.Errorf("Number(9, %d): % x", n, b)
		}
	}
}

// P1.1: a text is the number of its bytes, and these; a flag is 1 or 0.
func TestTextAndFlag(t *testing.T) {
	long := string(bytes.Repeat([]byte{0xc3}, 200))
	for _, x := range []struct{ got, want []byte }{
		{wire.Text(nil, ""), []byte{0}},
		{wire.Text(nil, "ab"), []byte{2, 'a', 'b'}},
		{wire.Text([]byte{5}, "é"), []byte{5, 2, 0xc3, 0xa9}},
		{wire.Text([]byte{5}, long), append([]byte{5, 0x81, 0x48}, long...)},
		{wire.Flag(nil, true), []byte{1}},
		{wire.Flag([]byte{5}, false), []byte{5, 0}},
	} {
		if !bytes.Equal(x.got, x.want) {
			t.Errorf("% x, not % x", x.got, x.want)
		}
	}
}

// P1.1: parts, none of them or many, one behind the other.
func TestJoin(t *testing.T) {
	if b := wire.Join(); len(b) != 0 {
		t.Errorf("% x", b)
	}
	if b := wire.Join(nil, []byte{}, nil); len(b) != 0 {
		t.Errorf("% x", b)
	}
	if b := wire.Join([]byte("ab"), nil, []byte("c"), []byte("de")); string(b) != "abcde" {
		t.Errorf("%s", b)
	}
}

// crc is the sum by the library's CRC-32, of which all bits stand the other way round.
func crc(b []byte) uint32 {
	r := make([]byte, len(b))
	for i, x := range b {
		r[i] = bits.Reverse8(x)
	}
	return bits.Reverse32(^crc32.ChecksumIEEE(r))
}

// P1.1: the sum of parts is that of all of them joined.
func TestSum(t *testing.T) {
	if c := wire.Sum([]byte("123456789")); c != 0x0376e6e7 {
		t.Errorf("%08x", c)
	}
	if wire.Sum() != 0xffffffff || wire.Sum(nil, []byte{}) != 0xffffffff {
		t.Errorf("%08x", wire.Sum())
	}
	r := rand.New(rand.NewSource(1))
	for n := range 200 {
		b := make([]byte, n)
		r.Read(b)
		i := r.Intn(n + 1)
		if wire.Sum(b) != crc(b) || wire.Sum(b[:i], nil, b[i:]) != crc(b) {
			t.Fatalf("% x", b)
		}
	}
}

// roomy is bytes with spare room behind their end, and all of that room.
func roomy(b []byte) ([]byte, []byte) {
	all := append(bytes.Clone(b), bytes.Repeat([]byte{0xaa}, 64)...)
	return all[:len(b)], all
}

// Rule Memory: what is handed in stays as it is, its spare room too, and nothing of it is in an answer.
func TestMemory(t *testing.T) {
	record, _ := wire.Record([]byte("payload"))
	for name, call := range map[string]func(b []byte) []byte{
		"Number":    func(b []byte) []byte { return wire.Number(b, 300) },
		"Text":      func(b []byte) []byte { return wire.Text(b, "xyz") },
		"Flag":      func(b []byte) []byte { return wire.Flag(b, true) },
		"Join":      func(b []byte) []byte { return wire.Join(b) },
		"Join none": func(b []byte) []byte { return wire.Join(b, nil) },
		"Record":    func(b []byte) []byte { r, _ := wire.Record(b); return r },
		"Pick":      func(b []byte) []byte { p, _, _ := wire.Pick(b); return p },
		"Rows":      func(b []byte) []byte { l, _ := wire.Rows(b); return l[0] },
	} {
		b, all := roomy(record)
		before := bytes.Clone(all)
		got := call(b)
		if !bytes.Equal(all, before) {
			t.Errorf("%s changes what is handed in", name)
		}
		clear(got[:cap(got)])
		if !bytes.Equal(all, before) {
			t.Errorf("%s answers what is handed in", name)
		}
	}
}

// Rule Memory: no two rows share anything, spare room neither.
func TestRowsApart(t *testing.T) {
	x, _ := wire.Record([]byte("ab"))
	l, _ := wire.Rows(wire.Join(x, x, x))
	for i := range l {
		row := append(l[i], bytes.Repeat([]byte{'z'}, 40)...)
		clear(row)
		for j := range l {
			if j > i && string(l[j]) != "ab" {
				t.Fatalf("row %d changes row %d", i, j)
			}
		}
	}
}
