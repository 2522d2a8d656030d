package wire_test

import (
	"bytes"
	"math"
	"math/rand"
	"testing"

	"spandrel/api"
	"spandrel/wire"
)

// P1.3, P1.4: each number comes back, whatever stands behind.
func TestScanNumber(t *testing.T) {
	for _, x := range numbers {
		s := wire.Over(x.b)
		if n := s.Number(); n != x.n || s.Err() != api.OK || s.Left() != 0 || s.End() != api.OK {
			t.Errorf("% x: %d %v", x.b, n, s.Err())
		}
		s = wire.Over(wire.Join(x.b, []byte{0x80, 0xff}))
		if n := s.Number(); n != x.n || s.Err() != api.OK || s.Left() != 2 {
			t.Errorf("% x 80 ff: %d %v", x.b, n, s.Err())
		}
	}
}

// P1.3: numbers that are none; what has an error reads nothing.
func TestScanNumberErrors(t *testing.T) {
	full := bytes.Repeat([]byte{255}, 8)
	for _, x := range []struct {
		b []byte
		e api.Errno
	}{
		{nil, api.ErrShort},
		{[]byte{0x80}, api.ErrForm},
		{[]byte{0x80, 0}, api.ErrForm},
		{[]byte{0x80, 1}, api.ErrForm},
		{wire.Join([]byte{0x80}, full, []byte{1, 1}), api.ErrForm},
		{[]byte{0x81}, api.ErrShort},
		{[]byte{0x81, 0x80, 0x80}, api.ErrShort},
		{full, api.ErrShort},
		{wire.Join(full, []byte{0x80}), api.ErrShort},
		{wire.Join(full, []byte{0xff}), api.ErrShort},
		{wire.Join(full, []byte{0xff, 0}), api.ErrRange},
		{wire.Join(full, []byte{0xff, 0x7f}), api.ErrRange},
		{wire.Join(full, []byte{0x80, 0xff}), api.ErrRange},
		{wire.Join(full, full), api.ErrRange},
	} {
		s := wire.Over(x.b)
		if n := s.Number(); n != 0 || s.Err() != x.e || s.Left() != len(x.b) || s.End() != x.e {
			t.Errorf("% x: %d %v, not %v", x.b, n, s.Err(), x.e)
		}
	}
}

// P1.3: texts, up to just most bytes.
func TestScanText(t *testing.T) {
	long := string(bytes.Repeat([]byte("ab"), 100))
	for _, x := range []struct {
		b    []byte
		most int
		want string
		left int
	}{
		{[]byte{0}, 0, "", 0},
		{[]byte{0}, -5, "", 0},
		{[]byte{2, 'a', 'b'}, 2, "ab", 0},
		{[]byte{2, 'a', 'b', 'c'}, math.MaxInt, "ab", 1},
		{wire.Text(nil, long), 200, long, 0},
		{wire.Text(nil, "\xff\x00"), 9, "\xff\x00", 0},
	} {
		s := wire.Over(x.b)
		if got := s.Text(x.most); got != x.want || s.Err() != api.OK || s.Left() != x.left {
			t.Errorf("% x: %q %v", x.b, got, s.Err())
		}
	}
}

// P1.3: texts that are none, and their first error.
func TestScanTextErrors(t *testing.T) {
	for _, x := range []struct {
		b    []byte
		most int
		e    api.Errno
	}{
		{nil, 5, api.ErrShort},
		{[]byte{0x80, 0}, 5, api.ErrForm},
		{[]byte{0x81}, 5, api.ErrShort},
		{bytes.Repeat([]byte{0x81}, 12), 5, api.ErrRange},
		{[]byte{3, 'a', 'b', 'c'}, 2, api.ErrLong},
		{[]byte{3, 'a'}, 2, api.ErrLong},
		{[]byte{1, 'a'}, 0, api.ErrLong},
		{[]byte{1, 'a'}, -1, api.ErrLong},
		{[]byte{1, 'a'}, math.MinInt, api.ErrLong},
		{[]byte{1}, 1, api.ErrShort},
		{[]byte{3, 'a', 'b'}, 3, api.ErrShort},
		{wire.Number(nil, math.MaxInt), math.MaxInt, api.ErrShort},
	} {
		s := wire.Over(x.b)
		if got := s.Text(x.most); got != "" || s.Err() != x.e || s.Left() != len(x.b) {
			t.Errorf("% x, %d: %q %v, not %v", x.b, x.most, got, s.Err(), x.e)
		}
	}
}

// P1.3: flags are 0 and 1 alone.
func TestScanFlag(t *testing.T) {
	for _, x := range []struct {
		b   []byte
		yes bool
		e   api.Errno
	}{
		{[]byte{0}, false, api.OK},
		{[]byte{1}, true, api.OK},
		{[]byte{2}, false, api.ErrForm},
		{[]byte{127}, false, api.ErrForm},
		{[]byte{0x81, 0}, false, api.ErrForm},
		{[]byte{0x80, 1}, false, api.ErrForm},
		{nil, false, api.ErrShort},
		{[]byte{0x81}, false, api.ErrShort},
		{bytes.Repeat([]byte{255}, 10), false, api.ErrRange},
	} {
		s := wire.Over(x.b)
		left := len(x.b)
		if x.e == api.OK {
			left = 0
		}
		if yes := s.Flag(); yes != x.yes || s.Err() != x.e || s.Left() != left {
			t.Errorf("% x: %v %v, not %v", x.b, yes, s.Err(), x.e)
		}
	}
}

// P1.3: behind its first error a scan reads nothing more, and keeps that error.
func TestScanKeepsItsError(t *testing.T) {
	bad := map[string]struct {
		b    []byte
		call func(s *wire.Scan)
		e    api.Errno
	}{
		"Number": {[]byte{0x80, 1, 1, 1}, func(s *wire.Scan) { s.Number() }, api.ErrForm},
		"Text":   {[]byte{1, 1, 1, 1}, func(s *wire.Scan) { s.Text(0) }, api.ErrLong},
		"Flag":   {[]byte{3, 1, 1, 1}, func(s *wire.Scan) { s.Flag() }, api.ErrForm},
		"End":    {[]byte{1, 1, 1, 1}, func(s *wire.Scan) { s.End() }, api.ErrMore},
	}
	for name, x := range bad {
		s := wire.Over(x.b)
		x.call(s)
		for range 2 {
			if s.Number() != 0 || s.Text(9) != "" || s.Flag() || s.Err() != x.e || s.End() != x.e || s.Left() != 4 {
				t.Errorf("%s: %v %d", name, s.Err(), s.Left())
			}
		}
	}
}

// P1.3: End tells what is left, and nothing where nothing is.
func TestScanEnd(t *testing.T) {
	s := wire.Over(nil)
	if s.Err() != api.OK || s.Left() != 0 || s.End() != api.OK || s.End() != api.OK || s.Err() != api.OK {
		t.Error(s.Err())
	}
	s = wire.Over([]byte{5, 6})
	if s.Number() != 5 || s.Left() != 1 || s.Number() != 6 || s.End() != api.OK {
		t.Error(s.Err())
	}
	if s.Number() != 0 || s.Err() != api.ErrShort || s.End() != api.ErrShort {
		t.Error(s.Err())
	}
}

// P1.3: a scan that Over did not make.
func TestScanNotMade(t *testing.T) {
	for _, s := range []*wire.Scan{nil, {}, new(wire.Scan)} {
		for range 2 {
			if s.Number() != 0 || s.Text(5) != "" || s.Flag() || s.Left() != 0 || s.Err() != api.ErrNil || s.End() != api.ErrNil {
				t.Error(s.Err(), s.End())
			}
		}
	}
}

// P1.3, rule Memory: a scan is over a copy, and two scans know nothing of one another.
func TestScanCopies(t *testing.T) {
	b := []byte{1, 2, 'x', 'y'}
	s, other := wire.Over(b), wire.Over(b)
	clear(b)
	if s.Number() != 1 || s.Text(2) != "xy" || s.End() != api.OK || other.Left() != 4 || other.Number() != 1 {
		t.Error(s.Err(), other.Err())
	}
}

// P1.5: whatever is read whole is, put again, the bytes that were read.
func TestOneForm(t *testing.T) {
	try := func(b []byte) {
		s := wire.Over(b)
		if n := s.Number(); s.Err() == api.OK && !bytes.Equal(wire.Number(nil, n), b[:len(b)-s.Left()]) {
			t.Fatalf("number % x", b)
		}
		s = wire.Over(b)
		if x := s.Text(len(b)); s.Err() == api.OK && !bytes.Equal(wire.Text(nil, x), b[:len(b)-s.Left()]) {
			t.Fatalf("text % x", b)
		}
		s = wire.Over(b)
		if yes := s.Flag(); s.Err() == api.OK && !bytes.Equal(wire.Flag(nil, yes), b[:len(b)-s.Left()]) {
			t.Fatalf("flag % x", b)
		}
	}
	for i := range 1 << 16 {
		try([]byte{byte(i)})
		try([]byte{byte(i >> 8), byte(i)})
		try([]byte{byte(i >> 8), 0x80, byte(i)})
	}
	r := rand.New(rand.NewSource(4))
	for range 20000 {
		b := make([]byte, r.Intn(12))
		for i := range b {
			b[i] = byte(r.Intn(256)) | byte(r.Intn(2)<<7)
		}
		try(b)
	}
}

// P1.4: a row of things that are put is read as it was.
func TestThereAndBack(t *testing.T) {
	r := rand.New(rand.NewSource(5))
	for range 500 {
		var b []byte
		var check []func(s *wire.Scan) bool
		for range r.Intn(20) {
			n := r.Int() >> r.Intn(63)
			switch r.Intn(3) {
			case 0:
				b = wire.Number(b, n)
				check = append(check, func(s *wire.Scan) bool { return s.Number() == n })
			case 1:
				x := make([]byte, r.Intn(200))
				r.Read(x)
				b = wire.Text(b, string(x))
				check = append(check, func(s *wire.Scan) bool { return s.Text(len(x)) == string(x) })
			default:
				b = wire.Flag(b, n%2 == 1)
				check = append(check, func(s *wire.Scan) bool { return s.Flag() == (n%2 == 1) })
			}
		}
		s := wire.Over(b)
		for i, f := range check {
			if !f(s) {
				t.Fatal(i, s.Err())
			}
		}
		if s.End() != api.OK {
			t.Fatal(s.End())
		}
	}
}
