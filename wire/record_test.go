package wire_test

import (
	"bytes"
	"math"
	"math/rand"
	"testing"

	"spandrel/api"
	"spandrel/wire"
)

// record is a payload's record, put together here.
func record(p []byte) []byte {
	b := append([]byte{0x5d}, wire.Number(nil, len(p))...)
	b = append(b, p...)
	c := crc(b)
	return append(b, byte(c>>24), byte(c>>16), byte(c>>8), byte(c))
}

// payloads are of many lengths, the greatest one too.
func payloads() [][]byte {
	r := rand.New(rand.NewSource(2))
	var l [][]byte
	for _, n := range []int{0, 1, 2, 126, 127, 128, 129, 511, 512, 1<<14 - 1, 1 << 14, api.MaxFrame - 1, api.MaxFrame} {
		p := make([]byte, n)
		r.Read(p)
		l = append(l, p)
	}
	return l
}

// P1.2: the head, the number of bytes, these, the sum of all that.
func TestRecord(t *testing.T) {
	for _, p := range payloads() {
		if b, e := wire.Record(p); e != api.OK || !bytes.Equal(b, record(p)) {
			t.Errorf("%d bytes: %v", len(p), e)
		}
	}
	if b, e := wire.Record(nil); e != api.OK || len(b) != 6 || b[0] != 0x5d || b[1] != 0 {
		t.Errorf("% x %v", b, e)
	}
	if b, e := wire.Record(make([]byte, api.MaxFrame+1)); e != api.ErrLong || b != nil {
		t.Errorf("%d bytes, %v", len(b), e)
	}
}

// P1.2, P1.4: the payload comes back, whatever stands behind.
func TestPick(t *testing.T) {
	for _, p := range payloads() {
		x := record(p)
		for _, behind := range [][]byte{nil, {0}, {0x5d}, x, bytes.Repeat([]byte{255}, 20)} {
			got, n, e := wire.Pick(wire.Join(x, behind))
			if e != api.OK || n != len(x) || !bytes.Equal(got, p) {
				t.Fatalf("%d bytes, % x behind: %d %v", len(p), behind, n, e)
			}
		}
	}
}

// P1.2: which error is found first.
func TestPickErrors(t *testing.T) {
	full := bytes.Repeat([]byte{255}, 9)
	for _, x := range []struct {
		b []byte
		e api.Errno
	}{
		{nil, api.ErrShort},
		{[]byte{}, api.ErrShort},
		{[]byte{0x5c}, api.ErrForm},
		{[]byte{0}, api.ErrForm},
		{[]byte{0x5d}, api.ErrShort},
		{[]byte{0x5d, 0x80}, api.ErrForm},
		{[]byte{0x5d, 0x80, 0}, api.ErrForm},
		{[]byte{0x5d, 0x81}, api.ErrShort},
		{wire.Join([]byte{0x5d}, full), api.ErrShort},
		{wire.Join([]byte{0x5d}, full, []byte{0}), api.ErrRange},
		{wire.Number([]byte{0x5d}, api.MaxFrame), api.ErrShort},
		{wire.Number([]byte{0x5d}, api.MaxFrame+1), api.ErrLong},
		{wire.Number([]byte{0x5d}, math.MaxInt), api.ErrLong},
		{wire.Number([]byte{0x5d}, math.MaxInt-3), api.ErrLong},
		{wire.Join(wire.Number([]byte{0x5d}, api.MaxFrame+1), make([]byte, api.MaxFrame+5)), api.ErrLong},
		{[]byte{0x5d, 2, 'a', 'b', 0, 0, 0}, api.ErrShort},
		{[]byte{0x5d, 2, 'a', 'b', 0, 0, 0, 0}, api.ErrSum},
		{[]byte{0x5d, 0, 0, 0, 0, 0}, api.ErrSum},
	} {
		if p, n, e := wire.Pick(x.b); e != x.e || p != nil || n != 0 {
			t.Errorf("% x: % x %d %v, not %v", x.b[:min(len(x.b), 12)], p, n, e, x.e)
		}
	}
}

// P1.2: rows go up to where no record is.
func TestRows(t *testing.T) {
	if l, n := wire.Rows(nil); l != nil || n != 0 {
		t.Error(l, n)
	}
	if l, n := wire.Rows([]byte("no record")); l != nil || n != 0 {
		t.Error(l, n)
	}
	x, y := record([]byte("one")), record(nil)
	bad := record([]byte("bad"))
	bad[3] = 'B'
	for _, behind := range [][]byte{nil, {0}, {0x5d}, bad, wire.Join(bad, x)} {
		l, n := wire.Rows(wire.Join(x, y, x, behind))
		if len(l) != 3 || n != 2*len(x)+len(y) || string(l[0]) != "one" || len(l[1]) != 0 || string(l[2]) != "one" {
			t.Errorf("% x behind: %q %d", behind, l, n)
		}
	}
	if l, n := wire.Rows(bytes.Repeat(y, 20000)); len(l) != 20000 || n != 120000 {
		t.Error(len(l), n)
	}
}

// P1.6: each beginning of a record is short, and rows end ahead of it.
func TestTorn(t *testing.T) {
	for _, size := range []int{0, 1, 3, 127, 128, 300, 1 << 14} {
		p := bytes.Repeat([]byte{0x5d}, size)
		x := record(p)
		for n := range len(x) {
			if size > 300 && n%97 != 0 && n < len(x)-5 {
				continue
			}
			if got, m, e := wire.Pick(x[:n]); e != api.ErrShort || got != nil || m != 0 {
				t.Fatalf("%d of %d bytes: %v", n, len(x), e)
			}
			if l, m := wire.Rows(wire.Join(x, x, x[:n])); len(l) != 2 || m != 2*len(x) {
				t.Fatalf("%d of %d bytes: %d rows", n, len(x), len(l))
			}
		}
	}
}

// P1.7: each other byte of the payload or of the sum is seen.
func TestTurned(t *testing.T) {
	p := []byte("a payload of a few bytes")
	x := record(p)
	for i := 2; i < len(x); i++ {
		for d := 1; d < 256; d++ {
			y := bytes.Clone(x)
			y[i] ^= byte(d)
			if got, n, e := wire.Pick(y); e != api.ErrSum || got != nil || n != 0 {
				t.Fatalf("byte %d, %02x: %v", i, d, e)
			}
		}
	}
}

// P1.5: a record that is picked is the one form of its payload.
func TestRecordForm(t *testing.T) {
	r := rand.New(rand.NewSource(3))
	for range 2000 {
		p := make([]byte, r.Intn(300))
		r.Read(p)
		x := record(p)
		got, n, e := wire.Pick(x)
		again, f := wire.Record(got)
		if e != api.OK || f != api.OK || n != len(x) || !bytes.Equal(again, x) {
			t.Fatal(e, f)
		}
	}
	long := []byte{0x5d, 0x80, 1, 'a'}
	c := crc(long)
	long = append(long, byte(c>>24), byte(c>>16), byte(c>>8), byte(c))
	if _, _, e := wire.Pick(long); e != api.ErrForm {
		t.Error(e)
	}
}
