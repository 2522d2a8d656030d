package disk_test

import (
	"bytes"
	"math"
	"slices"
	"strconv"
	"strings"
	"testing"

	"spandrel/api"
	"spandrel/disk"
)

// fresh is a disk of some room.
func fresh(t *testing.T, room int) *disk.Disk {
	t.Helper()
	d, e := disk.New(room)
	if e != api.OK || d == nil {
		t.Fatal(room, e)
	}
	return d
}

// want fails, unless all of these errors are OK.
func want(t *testing.T, l ...api.Errno) {
	t.Helper()
	for i, e := range l {
		if e != api.OK {
			t.Fatal(i, e)
		}
	}
}

// holds fails, unless a file has just these bytes.
func holds(t *testing.T, d *disk.Disk, name, text string) {
	t.Helper()
	if b, e := d.Read(name); e != api.OK || string(b) != text {
		t.Errorf("%s: %q %v, not %q", name, b, e, text)
	}
}

// names fails, unless just these files are seen.
func names(t *testing.T, d *disk.Disk, l ...string) {
	t.Helper()
	if got := d.List(); !slices.Equal(got, l) {
		t.Errorf("%q, not %q", got, l)
	}
}

// P2.1: a disk of a room that may be is empty, its power on.
func TestNew(t *testing.T) {
	for _, room := range []int{-1, math.MinInt, api.MaxRoom + 1, math.MaxInt} {
		if d, e := disk.New(room); d != nil || e != api.ErrArg {
			t.Error(room, e)
		}
	}
	for _, room := range []int{0, 1, api.MaxRoom} {
		d := fresh(t, room)
		if len(d.List()) != 0 || d.Used() != 0 || d.Pending() != 0 || d.Sync() != api.OK {
			t.Error(room)
		}
	}
}

// P2.1: what is seen, and what is counted.
func TestReadListUsedPending(t *testing.T) {
	d := fresh(t, 100)
	want(t, d.Write("b", 0, []byte("one")), d.Write("a.2", 0, nil), d.Write("a", 0, []byte("xy")))
	names(t, d, "a", "a.2", "b")
	holds(t, d, "b", "one")
	holds(t, d, "a.2", "")
	if d.Used() != 5 || d.Pending() != 3 {
		t.Error(d.Used(), d.Pending())
	}
	want(t, d.Sync(), d.Write("b", 0, []byte("u")), d.Drop("a"))
	if d.Used() != 6 || d.Pending() != 2 {
		t.Error(d.Used(), d.Pending())
	}
	want(t, d.Sync())
	if d.Used() != 3 || d.Pending() != 0 {
		t.Error(d.Used(), d.Pending())
	}
	for name, e := range map[string]api.Errno{"a": api.ErrFile, "": api.ErrName, "A": api.ErrName} {
		if b, got := d.Read(name); got != e || b != nil {
			t.Error(name, b, got)
		}
	}
}

// P2.1: which names may be.
func TestNames(t *testing.T) {
	all := "abcdefghijklmnopqrstuvwxyz0123456789."
	for x := range 256 {
		name := string([]byte{'a', byte(x)})
		e := api.OK
		if !strings.Contains(all, string([]byte{byte(x)})) {
			e = api.ErrName
		}
		if got := fresh(t, 9).Write(name, 0, nil); got != e {
			t.Errorf("%q: %v", name, got)
		}
	}
	for name, e := range map[string]api.Errno{
		"":                                  api.ErrName,
		".":                                 api.OK,
		"a":                                 api.OK,
		strings.Repeat("z", api.MaxName):    api.OK,
		strings.Repeat("z", api.MaxName+1):  api.ErrName,
		strings.Repeat("z", 1<<20):          api.ErrName,
		"é":                                 api.ErrName,
		strings.Repeat("z", api.MaxName-1):  api.OK,
		strings.Repeat(".", api.MaxName):    api.OK,
		strings.Repeat("9", api.MaxName+10): api.ErrName,
	} {
		d := fresh(t, 9)
		if got := d.Write(name, 0, nil); got != e {
			t.Errorf("%.40q: %v", name, got)
		}
		if got := d.Drop(name); got != e {
			t.Errorf("%.40q: %v", name, got)
		}
	}
}

// P2.2: a write stands where it is put, and the file grows if need be.
func TestWrite(t *testing.T) {
	for _, x := range []struct {
		at   int
		b    string
		want string
	}{
		{0, "", "abcd"}, {0, "X", "Xbcd"}, {1, "XY", "aXYd"}, {2, "XY", "abXY"}, {3, "XYZ", "abcXYZ"}, {4, "XY", "abcdXY"}, {4, "", "abcd"}, {0, "VWXYZ", "VWXYZ"},
	} {
		d := fresh(t, 100)
		want(t, d.Write("a", 0, []byte("abcd")), d.Write("a", x.at, []byte(x.b)))
		holds(t, d, "a", x.want)
		want(t, d.Sync())
		holds(t, d, "a", x.want)
		want(t, d.Crash(0, 0), d.Start())
		holds(t, d, "a", x.want)
	}
}

// P2.2: why a write is refused, and that nothing has changed then.
func TestWriteErrors(t *testing.T) {
	d := fresh(t, 10)
	want(t, d.Write("a", 0, []byte("abc")), d.Sync())
	big := make([]byte, 20)
	for _, x := range []struct {
		name string
		at   int
		b    []byte
		e    api.Errno
	}{
		{"", 0, nil, api.ErrName},
		{"a b", -1, big, api.ErrName},
		{"b", 1, nil, api.ErrFile},
		{"b", -1, big, api.ErrFile},
		{"b", math.MaxInt, big, api.ErrFile},
		{"a", -1, big, api.ErrArg},
		{"a", 4, big, api.ErrArg},
		{"a", math.MinInt, nil, api.ErrArg},
		{"a", math.MaxInt, nil, api.ErrArg},
		{"a", 0, big[:8], api.ErrFull},
		{"a", 3, big[:8], api.ErrFull},
		{"b", 0, big[:8], api.ErrFull},
		{"a", 0, big, api.ErrFull},
	} {
		if e := d.Write(x.name, x.at, x.b); e != x.e {
			t.Errorf("%q %d: %v, not %v", x.name, x.at, e, x.e)
		}
	}
	names(t, d, "a")
	holds(t, d, "a", "abc")
	if d.Used() != 3 || d.Pending() != 0 {
		t.Error(d.Used(), d.Pending())
	}
	want(t, d.Write("a", 3, big[:7]))
}

// P2.2, P2.9: what counts is what lasts, and all that pending writes wrote, though it stands on the same place.
func TestRoom(t *testing.T) {
	d := fresh(t, 10)
	for range 5 {
		want(t, d.Write("a", 0, []byte("xy")))
	}
	if d.Used() != 10 || d.Write("a", 0, []byte("z")) != api.ErrFull || d.Write("a", 0, nil) != api.OK {
		t.Error(d.Used())
	}
	want(t, d.Sync())
	if d.Used() != 2 || d.Write("a", 2, make([]byte, 9)) != api.ErrFull || d.Write("a", 2, make([]byte, 8)) != api.OK {
		t.Error(d.Used())
	}
	want(t, d.Crash(1, 3), d.Start())
	if d.Used() != 7 {
		t.Error(d.Used())
	}
	full := fresh(t, api.MaxRoom)
	want(t, full.Write("a", 0, make([]byte, api.MaxRoom)))
	if full.Write("a", 0, []byte{1}) != api.ErrFull || full.Used() != api.MaxRoom {
		t.Error(full.Used())
	}
	none := fresh(t, 0)
	want(t, none.Write("a", 0, nil))
	if none.Write("a", 0, []byte{1}) != api.ErrFull {
		t.Error("no room")
	}
}

// P2.2: MaxFiles files may be seen, and no more.
func TestMaxFiles(t *testing.T) {
	d := fresh(t, 100)
	for i := range api.MaxFiles {
		want(t, d.Write("f"+strconv.Itoa(i), 0, nil))
	}
	if e := d.Write("new", 0, nil); e != api.ErrFull {
		t.Error(e)
	}
	want(t, d.Write("f7", 0, []byte("x")), d.Drop("f9"), d.Write("new", 0, nil))
	if e := d.Write("f9", 0, nil); e != api.ErrFull || len(d.List()) != api.MaxFiles {
		t.Error(e)
	}
	want(t, d.Sync(), d.Move("f1", "f2"), d.Write("f9", 0, nil))
	if e := d.Write("f1", 0, nil); e != api.ErrFull {
		t.Error(e)
	}
}

// P2.2: trims.
func TestTrim(t *testing.T) {
	d := fresh(t, 100)
	want(t, d.Write("a", 0, []byte("abcd")))
	for _, x := range []struct {
		name string
		n    int
		e    api.Errno
	}{
		{"A", 9, api.ErrName}, {"b", -1, api.ErrFile}, {"b", 0, api.ErrFile}, {"a", -1, api.ErrArg}, {"a", 5, api.ErrArg}, {"a", math.MinInt, api.ErrArg}, {"a", math.MaxInt, api.ErrArg},
	} {
		if e := d.Trim(x.name, x.n); e != x.e {
			t.Errorf("%s %d: %v", x.name, x.n, e)
		}
	}
	if d.Pending() != 1 {
		t.Error(d.Pending())
	}
	for _, n := range []int{4, 3, 3, 1, 0, 0} {
		want(t, d.Trim("a", n))
		holds(t, d, "a", "abcd"[:n])
	}
	if d.Pending() != 7 || d.Used() != 4 {
		t.Error(d.Pending(), d.Used())
	}
	want(t, d.Write("a", 0, []byte("xy")))
	holds(t, d, "a", "xy")
}

// P2.2: moves; one onto another file, and one onto itself.
func TestMove(t *testing.T) {
	d := fresh(t, 100)
	want(t, d.Write("a", 0, []byte("A")), d.Write("b", 0, []byte("B")), d.Sync())
	for _, x := range []struct {
		old, name string
		e         api.Errno
	}{
		{"", "", api.ErrName}, {"A", "b", api.ErrName}, {"c", "", api.ErrFile}, {"c", "b", api.ErrFile}, {"a", "", api.ErrName}, {"a", "B", api.ErrName},
	} {
		if e := d.Move(x.old, x.name); e != x.e {
			t.Errorf("%q %q: %v", x.old, x.name, e)
		}
	}
	if d.Pending() != 0 {
		t.Error(d.Pending())
	}
	want(t, d.Move("a", "a"))
	names(t, d, "a", "b")
	holds(t, d, "a", "A")
	want(t, d.Move("a", "b"))
	names(t, d, "b")
	holds(t, d, "b", "A")
	want(t, d.Move("b", "c"))
	names(t, d, "c")
	if d.Pending() != 3 {
		t.Error(d.Pending())
	}
	want(t, d.Sync(), d.Crash(0, 0), d.Start())
	names(t, d, "c")
	holds(t, d, "c", "A")
}

// P2.2: drops.
func TestDrop(t *testing.T) {
	d := fresh(t, 100)
	want(t, d.Write("a", 0, []byte("A")), d.Sync())
	if d.Drop("") != api.ErrName || d.Drop("b") != api.ErrFile || d.Pending() != 0 {
		t.Error("refused")
	}
	want(t, d.Drop("a"))
	names(t, d)
	if d.Drop("a") != api.ErrFile || d.Used() != 1 || d.Pending() != 1 {
		t.Error(d.Used(), d.Pending())
	}
	want(t, d.Write("a", 0, []byte("new")))
	holds(t, d, "a", "new")
	want(t, d.Crash(1, 0), d.Start())
	names(t, d)
}

// P2.3, P2.7: what is synced stays, whatever crash comes.
func TestSync(t *testing.T) {
	for _, keep := range []int{math.MinInt, -1, 0, 1, 2, math.MaxInt} {
		for _, tear := range []int{math.MinInt, -1, 0, 1, math.MaxInt} {
			d := fresh(t, 100)
			want(t, d.Write("a", 0, []byte("abc")), d.Write("b", 0, nil), d.Trim("a", 2), d.Move("b", "c"), d.Sync())
			if d.Pending() != 0 || d.Used() != 2 {
				t.Error(d.Pending(), d.Used())
			}
			want(t, d.Crash(keep, tear), d.Start())
			names(t, d, "a", "c")
			holds(t, d, "a", "ab")
			holds(t, d, "c", "")
		}
	}
}

// P2.4, the chapter's first example, and keeps and tears beyond their ends.
func TestCrash(t *testing.T) {
	for _, x := range []struct {
		keep, tear int
		want       string
	}{
		{0, 0, "xy"}, {-1, 0, "xy"}, {math.MinInt, 5, "xy"}, {0, 9, "xy"},
		{1, 0, "xyz1"}, {1, -1, "xyz1"}, {1, 1, "xyz"}, {1, 2, "xy"}, {1, 3, "xy"}, {1, math.MaxInt, "xy"},
		{2, 0, "wv!1"}, {2, 1, "wvz1"}, {2, 2, "wyz1"}, {2, 3, "xyz1"}, {2, 4, "xyz1"},
		{3, 0, "wv!1"}, {math.MaxInt, math.MinInt, "wv!1"}, {math.MaxInt, 2, "wyz1"},
	} {
		d := fresh(t, 100)
		want(t, d.Write("a", 0, []byte("xy")), d.Sync(), d.Write("a", 2, []byte("z1")), d.Write("a", 0, []byte("wv!")))
		want(t, d.Crash(x.keep, x.tear), d.Start())
		holds(t, d, "a", x.want)
		if d.Pending() != 0 || d.Used() != len(x.want) {
			t.Error(x, d.Pending(), d.Used())
		}
		want(t, d.Crash(9, 0), d.Start())
		holds(t, d, "a", x.want)
	}
}

// P2.4: a torn write makes its file; what is not a write is not torn, nor is a write ahead of it.
func TestTear(t *testing.T) {
	d := fresh(t, 100)
	want(t, d.Write("a", 0, []byte("abc")), d.Crash(1, 3), d.Start())
	holds(t, d, "a", "")
	want(t, d.Write("a", 0, []byte("abc")), d.Trim("a", 2), d.Crash(2, 9), d.Start())
	holds(t, d, "a", "ab")
	want(t, d.Write("a", 0, []byte("xyz")), d.Move("a", "b"), d.Crash(2, 9), d.Start())
	names(t, d, "b")
	holds(t, d, "b", "xyz")
	want(t, d.Write("b", 0, []byte("123")), d.Write("c", 0, nil), d.Crash(2, 1), d.Start())
	names(t, d, "b", "c")
	holds(t, d, "b", "123")
	want(t, d.Write("b", 0, []byte("45")), d.Drop("c"), d.Crash(2, 1), d.Start())
	names(t, d, "b")
	holds(t, d, "b", "453")
}

// P2.1, P2.4: while the power is off, nothing is told and nothing is done.
func TestDown(t *testing.T) {
	d := fresh(t, 100)
	want(t, d.Write("a", 0, []byte("ab")), d.Sync(), d.Write("a", 2, []byte("c")), d.Crash(0, 0))
	for range 2 {
		l := []api.Errno{d.Write("a", 0, nil), d.Write("", -1, nil), d.Trim("a", 0), d.Trim("", -1), d.Move("a", "b"), d.Move("", ""), d.Drop("a"), d.Drop("b"), d.Sync(), d.Arm(1, 9, 0), d.Crash(9, 0)}
		for i, e := range l {
			if e != api.ErrDown {
				t.Error(i, e)
			}
		}
		if b, e := d.Read("a"); b != nil || e != api.ErrDown {
			t.Error(b, e)
		}
		if b, e := d.Read(""); b != nil || e != api.ErrDown {
			t.Error(b, e)
		}
		if d.List() != nil || d.Used() != 0 || d.Pending() != 0 {
			t.Error(d.List(), d.Used(), d.Pending())
		}
	}
	want(t, d.Start())
	holds(t, d, "a", "ab")
	want(t, d.Write("a", 0, []byte("x")), d.Start())
	if d.Used() != 3 || d.Pending() != 1 {
		t.Error("a start of a disk that is on changes nothing")
	}
	holds(t, d, "a", "xb")
}

// P2.5: the n-th act or sync that is not refused is struck.
func TestArm(t *testing.T) {
	d := fresh(t, 100)
	want(t, d.Arm(4, 1, 1), d.Write("a", 0, []byte("ab")), d.Sync())
	if d.Write("b", 3, nil) != api.ErrFile || d.Trim("a", 9) != api.ErrArg || d.Drop("") != api.ErrName || d.Write("a", 0, make([]byte, 200)) != api.ErrFull {
		t.Fatal("refused")
	}
	want(t, d.Write("a", 2, []byte("cd")))
	if e := d.Write("a", 4, []byte("ef")); e != api.ErrDown {
		t.Fatal(e)
	}
	want(t, d.Start())
	holds(t, d, "a", "abc")
	want(t, d.Sync(), d.Write("a", 0, []byte("x")), d.Sync())
	holds(t, d, "a", "xbc")
}

// P2.5: a struck act is done, and a struck sync is not.
func TestArmStrikes(t *testing.T) {
	acts := map[string]func(d *disk.Disk) api.Errno{
		"abc":  func(d *disk.Disk) api.Errno { return d.Sync() },
		"abcX": func(d *disk.Disk) api.Errno { return d.Write("a", 3, []byte("X")) },
		"a":    func(d *disk.Disk) api.Errno { return d.Trim("a", 1) },
	}
	for text, call := range acts {
		d := fresh(t, 100)
		want(t, d.Write("a", 0, []byte("abc")), d.Arm(1, 9, 0))
		if e := call(d); e != api.ErrDown || d.Sync() != api.ErrDown {
			t.Error(text, e)
		}
		want(t, d.Start())
		holds(t, d, "a", text)
		d = fresh(t, 100)
		want(t, d.Write("a", 0, []byte("abc")), d.Arm(1, 0, 0))
		if e := call(d); e != api.ErrDown {
			t.Error(text, e)
		}
		want(t, d.Start())
		names(t, d)
	}
	d := fresh(t, 100)
	want(t, d.Write("a", 0, []byte("abc")), d.Arm(1, 9, 2))
	if d.Sync() != api.ErrDown {
		t.Error("sync")
	}
	want(t, d.Start())
	holds(t, d, "a", "a")
	want(t, d.Arm(1, 1, 0))
	if d.Drop("a") != api.ErrDown {
		t.Error("drop")
	}
	want(t, d.Start())
	names(t, d)
	want(t, d.Write("a", 0, nil), d.Arm(2, 2, 0), d.Move("a", "b"))
	if d.Move("b", "c") != api.ErrDown {
		t.Error("move")
	}
	want(t, d.Start())
	names(t, d, "b")
}

// P2.4, P2.5: what was armed ahead is so no longer: by another Arm, or a crash.
func TestArmAgain(t *testing.T) {
	for _, n := range []int{0, -1, math.MinInt} {
		d := fresh(t, 100)
		want(t, d.Arm(1, 0, 0), d.Arm(n, 0, 0), d.Sync(), d.Write("a", 0, nil), d.Sync(), d.Sync())
	}
	d := fresh(t, 100)
	want(t, d.Arm(1, 0, 0), d.Arm(2, 0, 0), d.Sync())
	if d.Sync() != api.ErrDown {
		t.Error("the later one holds")
	}
	want(t, d.Start(), d.Sync(), d.Arm(2, 0, 0), d.Crash(0, 0), d.Start(), d.Sync(), d.Sync(), d.Sync())
	want(t, d.Arm(1, 0, 0), d.Start())
	if d.Sync() != api.ErrDown {
		t.Error("a start of a disk that is on leaves it armed")
	}
	want(t, d.Start(), d.Arm(math.MaxInt, 0, 0), d.Sync(), d.Sync())
}

// P2.6: a clone has all of the same: files, acts, room, what is armed, whether the power is on.
func TestClone(t *testing.T) {
	d := fresh(t, 10)
	want(t, d.Write("a", 0, []byte("ab")), d.Sync(), d.Write("a", 2, []byte("cd")), d.Arm(2, 1, 1))
	c := d.Clone()
	if c.Used() != 4 || c.Pending() != 1 || c.Write("a", 0, make([]byte, 7)) != api.ErrFull {
		t.Error(c.Used(), c.Pending())
	}
	want(t, c.Write("a", 0, []byte("X")))
	holds(t, c, "a", "Xbcd")
	holds(t, d, "a", "abcd")
	if c.Drop("a") != api.ErrDown {
		t.Error("the clone is armed")
	}
	off := c.Clone()
	if off.Sync() != api.ErrDown || off.List() != nil {
		t.Error("the clone is off")
	}
	want(t, off.Start(), d.Sync())
	holds(t, off, "a", "abc")
	if c.Sync() != api.ErrDown || d.Sync() != api.ErrDown {
		t.Error("apart")
	}
	want(t, d.Start(), c.Start())
	holds(t, d, "a", "abcd")
	holds(t, c, "a", "abc")
}

// P2.6: a disk that no call made.
func TestNotMade(t *testing.T) {
	for _, d := range []*disk.Disk{nil, {}} {
		for range 2 {
			l := []api.Errno{d.Write("a", 0, nil), d.Write("", -1, nil), d.Trim("a", 0), d.Move("a", "b"), d.Drop("a"), d.Sync(), d.Arm(1, 0, 0), d.Crash(0, 0), d.Start()}
			for i, e := range l {
				if e != api.ErrNil {
					t.Error(i, e)
				}
			}
			if b, e := d.Read("a"); b != nil || e != api.ErrNil {
				t.Error(b, e)
			}
			if d.List() != nil || d.Used() != 0 || d.Pending() != 0 || d.Clone() != nil {
				t.Error("not made")
			}
		}
	}
}

// Rule Memory: a disk neither keeps nor changes what is handed in, and hands nothing of its own out.
func TestMemory(t *testing.T) {
	all := []byte("abcdefgh")
	d := fresh(t, 100)
	want(t, d.Write("a", 0, all[:3]), d.Write("a", 3, []byte("xyz")))
	if string(all) != "abcdefgh" {
		t.Errorf("%s", all)
	}
	clear(all)
	holds(t, d, "a", "abcxyz")
	got, _ := d.Read("a")
	clear(got[:cap(got)])
	holds(t, d, "a", "abcxyz")
	want(t, d.Sync())
	clear(all)
	l := d.List()
	l[0] = "other"
	names(t, d, "a")
	holds(t, d, "a", "abcxyz")
	got, _ = d.Read("a")
	_ = append(got[:0], bytes.Repeat([]byte{'!'}, cap(got))...)
	want(t, d.Crash(9, 9), d.Start())
	holds(t, d, "a", "abcxyz")
}

// P2.10: what is seen and what lasts are apart, though a file is written over and over in place.
func TestSeenAndLast(t *testing.T) {
	d := fresh(t, 1000)
	want(t, d.Write("a", 0, []byte("0123456789")), d.Sync(), d.Trim("a", 3), d.Write("a", 3, []byte("xxxx")), d.Write("a", 0, []byte("yy")), d.Move("a", "b"), d.Write("b", 2, []byte("!")))
	holds(t, d, "b", "yy!xxxx")
	want(t, d.Crash(0, 0), d.Start())
	names(t, d, "a")
	holds(t, d, "a", "0123456789")
	want(t, d.Write("a", 0, []byte("zz")))
	want(t, d.Crash(0, 0), d.Start())
	holds(t, d, "a", "0123456789")
}
