package wal_test

import (
	"bytes"
	"fmt"
	"math"
	"slices"
	"strings"
	"testing"

	"spandrel/api"
	"spandrel/disk"
	"spandrel/wal"
	"spandrel/wire"
)

// most is the greatest index and the greatest term.
const most = 1 << 40

// seg is a segment's name.
func seg(n int) string { return fmt.Sprintf("wal.%012d", n) }

// rec is a record of numbers.
func rec(l ...int) []byte {
	var p []byte
	for _, n := range l {
		p = wire.Number(p, n)
	}
	b, _ := wire.Record(p)
	return b
}

// one is the record of an entry.
func one(e api.Entry) []byte {
	p := wire.Number(wire.Number(wire.Number(nil, 2), e.Index), e.Term)
	b, _ := wire.Record(wire.Text(p, string(e.Data)))
	return b
}

// head is how a log without anything begins.
func head() []byte { return wire.Join(rec(4, 0, 0), rec(1, 0, 0), rec(5)) }

// entry is one with a text.
func entry(index, term int, text string) api.Entry {
	return api.Entry{Index: index, Term: term, Data: []byte(text)}
}

// row is entries of the indices from one to another, of a term.
func row(from, to, term int) []api.Entry {
	var l []api.Entry
	for i := from; i <= to; i++ {
		l = append(l, entry(i, term, strings.Repeat("x", i)))
	}
	return l
}

// fresh is a disk of some room.
func fresh(t *testing.T, room int) *disk.Disk {
	t.Helper()
	d, e := disk.New(room)
	if e != api.OK {
		t.Fatal(e)
	}
	return d
}

// laid is a disk that has just these files, for good.
func laid(t *testing.T, files map[string][]byte) *disk.Disk {
	t.Helper()
	d := fresh(t, api.MaxRoom)
	for name, b := range files {
		want(t, d.Write(name, 0, b))
	}
	want(t, d.Sync())
	return d
}

// open is the log of a disk that has one.
func open(t *testing.T, d *disk.Disk) *wal.Log {
	t.Helper()
	l, e := wal.Open(d)
	if e != api.OK || l == nil {
		t.Fatal(e)
	}
	return l
}

// want fails, unless all of these errors are OK.
func want(t *testing.T, l ...api.Errno) {
	t.Helper()
	for i, e := range l {
		if e != api.OK {
			t.Fatal(i, e)
		}
	}
}

// tell is all that a log has.
func tell(l *wal.Log) string {
	index, term := l.Base()
	return says(l.Hard(), index, term, l.Entries()...)
}

// says is what tell is of a log with all that.
func says(h api.Hard, index, term int, l ...api.Entry) string {
	var b strings.Builder
	fmt.Fprintf(&b, "hard %d %d, base %d %d:", h.Term, h.Vote, index, term)
	for _, e := range l {
		fmt.Fprintf(&b, " %d %d %q", e.Index, e.Term, e.Data)
	}
	return b.String()
}

// has fails, unless a log has just that.
func has(t *testing.T, l *wal.Log, text string) {
	t.Helper()
	if got := tell(l); got != text {
		t.Errorf("%.300s\nnot %.300s", got, text)
	}
}

// holds fails, unless a disk has just these segments, and no other file.
func holds(t *testing.T, d *disk.Disk, segments map[int][]byte) {
	t.Helper()
	var names []string
	for n, b := range segments {
		names = append(names, seg(n))
		if got, e := d.Read(seg(n)); e != api.OK || !bytes.Equal(got, b) {
			t.Errorf("segment %d: %v % x, not % x", n, e, got, b)
		}
	}
	slices.Sort(names)
	if l := d.List(); !slices.Equal(l, names) {
		t.Errorf("%q, not %q", l, names)
	}
}

// The chapter's example.
func TestExample(t *testing.T) {
	d := fresh(t, 10000)
	l := open(t, d)
	want(t, l.Append(entry(1, 1, "a"), entry(2, 1, "b")), l.Cut(2), l.Put(api.Hard{Term: 2, Vote: 1}), l.Sync(), d.Crash(0, 0), d.Start())
	l = open(t, d)
	has(t, l, says(api.Hard{Term: 2, Vote: 1}, 0, 0, entry(1, 1, "a")))
	if e := l.Append(entry(3, 1, "")); e != api.ErrIndex {
		t.Error(e)
	}
	want(t, l.Rebase(1, 1))
	has(t, l, says(api.Hard{Term: 2, Vote: 1}, 1, 1))
	if names := d.List(); !slices.Equal(names, []string{"wal.000000000002"}) {
		t.Error(names)
	}
}

// P5.1: a disk without segments has a log without anything, and gets no file.
func TestOpenNothing(t *testing.T) {
	d := fresh(t, 0)
	l := open(t, d)
	has(t, l, says(api.Hard{}, 0, 0))
	if l.Entries() != nil || len(d.List()) != 0 || d.Pending() != 0 {
		t.Error(l.Entries(), d.List(), d.Pending())
	}
}

// P5.1: disks of which no log can be.
func TestOpenErrors(t *testing.T) {
	for _, d := range []*disk.Disk{nil, {}} {
		if l, e := wal.Open(d); l != nil || e != api.ErrNil {
			t.Error(e)
		}
	}
	d := laid(t, map[string][]byte{seg(1): head()})
	want(t, d.Crash(0, 0))
	if l, e := wal.Open(d); l != nil || e != api.ErrDown {
		t.Error(e)
	}
}

// P5.2: what each call writes, ahead of it what a log without anything begins with.
func TestWrites(t *testing.T) {
	big := strings.Repeat("z", api.MaxData)
	for name, x := range map[string]struct {
		call func(l *wal.Log) api.Errno
		b    []byte
		text string
	}{
		"put":    {func(l *wal.Log) api.Errno { return l.Put(api.Hard{Term: 300, Vote: 7}) }, rec(1, 300, 7), says(api.Hard{Term: 300, Vote: 7}, 0, 0)},
		"nought": {func(l *wal.Log) api.Errno { return l.Put(api.Hard{}) }, rec(1, 0, 0), says(api.Hard{}, 0, 0)},
		"append": {func(l *wal.Log) api.Errno { return l.Append(entry(1, 5, "ab")) }, one(entry(1, 5, "ab")), says(api.Hard{}, 0, 0, entry(1, 5, "ab"))},
		"more": {func(l *wal.Log) api.Errno { return l.Append(entry(1, 5, ""), entry(2, 3, big)) },
			wire.Join(one(entry(1, 5, "")), one(entry(2, 3, big))), says(api.Hard{}, 0, 0, entry(1, 5, ""), entry(2, 3, big))},
	} {
		d := fresh(t, 10000)
		l := open(t, d)
		want(t, x.call(l))
		if d.Pending() != 1 {
			t.Error(name, d.Pending())
		}
		holds(t, d, map[int][]byte{1: wire.Join(head(), x.b)})
		has(t, l, x.text)
		want(t, x.call(open(t, fresh(t, len(head())+len(x.b)))))
		if e := x.call(open(t, fresh(t, len(head())+len(x.b)-1))); e != api.ErrFull {
			t.Error(name, e)
		}
	}
}

// P5.2: further writes stand behind, each one act.
func TestWritesBehind(t *testing.T) {
	d := fresh(t, 10000)
	l := open(t, d)
	want(t, l.Put(api.Hard{Term: 1}), l.Append(row(1, 3, 2)...), l.Cut(2), l.Append(entry(2, 9, "new")), l.Cut(1), l.Put(api.Hard{Term: 2, Vote: 3}))
	var list []byte
	for _, e := range row(1, 3, 2) {
		list = append(list, one(e)...)
	}
	holds(t, d, map[int][]byte{1: wire.Join(head(), rec(1, 1, 0), list, rec(3, 2), one(entry(2, 9, "new")), rec(3, 1), rec(1, 2, 3))})
	has(t, l, says(api.Hard{Term: 2, Vote: 3}, 0, 0))
	if d.Pending() != 6 {
		t.Error(d.Pending())
	}
}

// P5.2: which term and vote may be.
func TestPut(t *testing.T) {
	d := fresh(t, 10000)
	l := open(t, d)
	want(t, l.Put(api.Hard{Term: 4, Vote: 4}))
	size := d.Used()
	for _, h := range []api.Hard{{Term: -1}, {Term: most + 1}, {Term: math.MinInt}, {Term: math.MaxInt}, {Term: 1, Vote: -1}, {Term: 1, Vote: 8}, {Term: 1, Vote: math.MaxInt}, {Term: 1, Vote: math.MinInt}} {
		if e := l.Put(h); e != api.ErrArg {
			t.Error(h, e)
		}
	}
	has(t, l, says(api.Hard{Term: 4, Vote: 4}, 0, 0))
	if d.Used() != size {
		t.Error(d.Used())
	}
	for _, h := range []api.Hard{{}, {Term: most, Vote: 7}, {Term: 1, Vote: 1}, {Term: 0, Vote: 7}} {
		want(t, l.Put(h))
		has(t, l, says(h, 0, 0))
		has(t, open(t, d), says(h, 0, 0))
	}
}

// P5.2: which entries may be, one behind the other; if one may not be, none is written.
func TestAppend(t *testing.T) {
	d := fresh(t, 100000)
	l := open(t, d)
	want(t, l.Append(), l.Append(row(1, 2, 1)...), l.Append([]api.Entry{}...))
	text, size := tell(l), d.Used()
	long := strings.Repeat("z", api.MaxData+1)
	for _, list := range [][]api.Entry{
		{entry(2, 1, "")}, {entry(4, 1, "")}, {entry(0, 1, "")}, {entry(-1, 1, "")}, {entry(math.MaxInt, 1, "")}, {entry(math.MinInt, 1, "")},
		{entry(3, 0, "")}, {entry(3, -1, "")}, {entry(3, most+1, "")}, {entry(3, math.MaxInt, "")}, {entry(3, math.MinInt, "")},
		{entry(3, 1, long)},
		{entry(3, 1, ""), entry(3, 1, "")}, {entry(3, 1, ""), entry(5, 1, "")}, {entry(4, 1, ""), entry(3, 1, "")},
		{entry(3, 1, ""), entry(4, 0, "")}, {entry(3, 1, ""), entry(4, 1, long)}, {entry(3, 1, ""), {}},
	} {
		if e := l.Append(list...); e != api.ErrIndex {
			t.Errorf("%.80v: %v", list, e)
		}
	}
	has(t, l, text)
	if d.Used() != size || d.Pending() != 1 {
		t.Error(d.Used(), d.Pending())
	}
	want(t, l.Append(entry(3, most, long[1:]), entry(4, 1, "\x00\xff")))
	has(t, l, text+says(api.Hard{}, 0, 0, entry(3, most, long[1:]), entry(4, 1, "\x00\xff"))[len(says(api.Hard{}, 0, 0)):])
}

// P5.2: the last index that may be.
func TestAppendMost(t *testing.T) {
	l := open(t, fresh(t, 10000))
	want(t, l.Rebase(most-1, 3))
	if e := l.Append(entry(most, 3, "a"), entry(most+1, 3, "b")); e != api.ErrIndex {
		t.Error(e)
	}
	want(t, l.Append(entry(most, 3, "a")))
	if e := l.Append(entry(most+1, 3, "b")); e != api.ErrIndex {
		t.Error(e)
	}
	has(t, l, says(api.Hard{}, most-1, 3, entry(most, 3, "a")))
}

// P5.2: from where entries may be cut off.
func TestCut(t *testing.T) {
	d := fresh(t, 10000)
	l := open(t, d)
	for _, from := range []int{0, 1, -1} {
		if e := l.Cut(from); e != api.ErrIndex {
			t.Error(from, e)
		}
	}
	want(t, l.Append(row(1, 5, 1)...), l.Rebase(2, 1))
	size := d.Used()
	for _, from := range []int{0, 1, 2, 6, -3, math.MinInt, math.MaxInt} {
		if e := l.Cut(from); e != api.ErrIndex {
			t.Error(from, e)
		}
	}
	if d.Used() != size {
		t.Error(d.Used())
	}
	has(t, l, says(api.Hard{}, 2, 1, row(3, 5, 1)...))
	for from := 5; from > 2; from-- {
		want(t, l.Cut(from))
		has(t, l, says(api.Hard{}, 2, 1, row(3, from-1, 1)...))
		has(t, open(t, d.Clone()), says(api.Hard{}, 2, 1, row(3, from-1, 1)...))
	}
	want(t, l.Append(row(3, 4, 7)...))
	has(t, l, says(api.Hard{}, 2, 1, row(3, 4, 7)...))
}

// P5.2: a segment that has Segment bytes or more is left; one that has fewer is not, however many come.
func TestSegments(t *testing.T) {
	bare := len(wire.Join(head(), one(entry(1, 1, strings.Repeat("x", 1000)))))
	for over := -1; over <= 1; over++ {
		d := fresh(t, 100000)
		l := open(t, d)
		first := entry(1, 1, strings.Repeat("x", 1000+api.Segment-bare+over))
		want(t, l.Append(first))
		if d.Used() != api.Segment+over {
			t.Fatal(d.Used())
		}
		second := entry(2, 1, strings.Repeat("y", 4000))
		want(t, l.Append(second), l.Put(api.Hard{Term: 3}), l.Put(api.Hard{Term: 4}), l.Cut(2))
		last := wire.Join(rec(1, 3, 0), rec(1, 4, 0), rec(3, 2))
		if over < 0 {
			holds(t, d, map[int][]byte{1: wire.Join(head(), one(first), one(second)), 2: last})
		} else {
			holds(t, d, map[int][]byte{1: wire.Join(head(), one(first)), 2: one(second), 3: last})
		}
		has(t, open(t, d), tell(l))
	}
}

// P5.2: a log that was opened goes on where its last segment ends.
func TestOpenedWritesBehind(t *testing.T) {
	d := laid(t, map[string][]byte{seg(5): wire.Join(head(), rec(1, 2, 2)), seg(6): wire.Join(one(entry(1, 2, "a")), []byte{0x5d})})
	l := open(t, d)
	want(t, l.Append(entry(2, 2, "b")))
	holds(t, d, map[int][]byte{5: wire.Join(head(), rec(1, 2, 2)), 6: wire.Join(one(entry(1, 2, "a")), one(entry(2, 2, "b")))})
	full := one(entry(1, 2, strings.Repeat("x", api.Segment)))
	d = laid(t, map[string][]byte{seg(9): wire.Join(head(), full)})
	want(t, open(t, d).Put(api.Hard{Term: 1}))
	holds(t, d, map[int][]byte{9: wire.Join(head(), full), 10: rec(1, 1, 0)})
}

// P5.2, P5.6: a disk that is full changes nothing, and lets the log go on when there is room again.
func TestFull(t *testing.T) {
	d := fresh(t, api.Segment+1000)
	l := open(t, d)
	want(t, l.Append(entry(1, 1, strings.Repeat("x", api.Segment))), l.Put(api.Hard{Term: 1}), d.Write("other", 0, make([]byte, d.Used()-api.Segment)))
	want(t, d.Sync(), d.Write("other", 0, make([]byte, api.Segment+1000-d.Used())))
	text, files := tell(l), d.List()
	for name, e := range map[string]api.Errno{
		"put":    l.Put(api.Hard{Term: 2}),
		"append": l.Append(entry(2, 1, "a")),
		"cut":    l.Cut(1),
		"rebase": l.Rebase(1, 1),
	} {
		if e != api.ErrFull {
			t.Error(name, e)
		}
	}
	has(t, l, text)
	if !slices.Equal(d.List(), files) {
		t.Error(d.List())
	}
	want(t, d.Drop("other"), d.Sync(), l.Append(entry(2, 1, "a")), l.Put(api.Hard{Term: 2}))
	has(t, open(t, d), tell(l))
}

// P5.2: a write that the disk refused as the first one leaves a log without segments.
func TestFullAtFirst(t *testing.T) {
	d := fresh(t, 100)
	l := open(t, d)
	if e := l.Append(entry(1, 1, strings.Repeat("x", 100))); e != api.ErrFull || len(d.List()) != 0 {
		t.Error(e, d.List())
	}
	has(t, l, says(api.Hard{}, 0, 0))
	want(t, l.Put(api.Hard{Term: 1}))
	holds(t, d, map[int][]byte{1: wire.Join(head(), rec(1, 1, 0))})
}

// P5.3: which base may follow, what stays behind it, and what is written.
func TestRebase(t *testing.T) {
	hard := api.Hard{Term: 9, Vote: 2}
	list := []api.Entry{entry(4, 2, "a"), entry(5, 2, ""), entry(6, 3, "c")}
	for _, x := range []struct {
		index, term int
		stay        int
	}{
		{3, 2, 3}, {3, 1, 0}, {3, 0, 0}, {4, 2, 2}, {4, 3, 0}, {4, 0, 0}, {5, 2, 1}, {5, 1, 0}, {6, 3, 0}, {6, 2, 0}, {7, 3, 0}, {7, 0, 0}, {100, 100, 0}, {most, most, 0},
	} {
		d := laid(t, map[string][]byte{seg(7): wire.Join(rec(4, 3, 2), rec(5), one(list[0])), seg(8): wire.Join(one(list[1]), one(list[2]), rec(1, 9, 2))})
		l := open(t, d)
		want(t, l.Rebase(x.index, x.term))
		stay := list[3-x.stay:]
		has(t, l, says(hard, x.index, x.term, stay...))
		b := wire.Join(rec(4, x.index, x.term), rec(1, 9, 2))
		for _, e := range stay {
			b = append(b, one(e)...)
		}
		holds(t, d, map[int][]byte{9: wire.Join(b, rec(5))})
		has(t, open(t, d), tell(l))
		want(t, l.Put(api.Hard{}))
		holds(t, d, map[int][]byte{9: wire.Join(b, rec(5), rec(1, 0, 0))})
	}
}

// P5.3: of a log without anything; the base 0 and 0 is that of a log without anything.
func TestRebaseNothing(t *testing.T) {
	for _, x := range []struct{ index, term int }{{0, 0}, {0, 5}, {most, 0}, {7, 2}} {
		d := fresh(t, 1000)
		l := open(t, d)
		want(t, l.Rebase(x.index, x.term))
		has(t, l, says(api.Hard{}, x.index, x.term))
		holds(t, d, map[int][]byte{1: wire.Join(rec(4, x.index, x.term), rec(1, 0, 0), rec(5))})
	}
}

// P5.3: which base may not follow.
func TestRebaseErrors(t *testing.T) {
	d := fresh(t, 10000)
	l := open(t, d)
	want(t, l.Rebase(3, 2), l.Append(row(4, 6, 2)...), l.Sync())
	text := tell(l)
	for _, x := range []struct{ index, term int }{{2, 2}, {0, 0}, {-1, 1}, {math.MinInt, 1}, {most + 1, 1}, {math.MaxInt, 1}, {4, -1}, {4, most + 1}, {4, math.MaxInt}, {4, math.MinInt}} {
		if e := l.Rebase(x.index, x.term); e != api.ErrIndex {
			t.Error(x, e)
		}
	}
	has(t, l, text)
	if d.Pending() != 0 {
		t.Error(d.Pending())
	}
}

// P5.3: one write, a sync, and the older segments are dropped, by rising numbers. Whatever act is struck, the log is the new one from the write on.
func TestRebaseActs(t *testing.T) {
	full := strings.Repeat("x", api.Segment)
	first := fresh(t, 100000)
	l := open(t, first)
	want(t, l.Append(entry(1, 1, full)), l.Append(entry(2, 1, full)), l.Append(entry(3, 1, "c")), l.Sync())
	ahead, behind := tell(l), says(api.Hard{}, 2, 1, entry(3, 1, "c"))
	for n, x := range []struct {
		keep     int
		text     string
		segments []string
	}{
		{1, ahead, []string{seg(1), seg(2), seg(3), seg(4)}},
		{1, behind, []string{seg(1), seg(2), seg(3), seg(4)}},
		{1, behind, []string{seg(2), seg(3), seg(4)}},
		{2, behind, []string{seg(3), seg(4)}},
		{3, behind, []string{seg(4)}},
	} {
		d := first.Clone()
		l := open(t, d)
		want(t, d.Arm(n+1, x.keep, 0))
		if e := l.Rebase(2, 1); e != api.ErrDown {
			t.Error(n, e)
		}
		has(t, l, x.text)
		want(t, d.Start())
		if names := d.List(); !slices.Equal(names, x.segments) {
			t.Error(n, names)
		}
		has(t, open(t, d), behind)
		holds(t, d, map[int][]byte{4: wire.Join(rec(4, 2, 1), rec(1, 0, 0), one(entry(3, 1, "c")), rec(5))})
	}
	d := first.Clone()
	l = open(t, d)
	want(t, d.Arm(6, 0, 0), l.Rebase(2, 1))
	if d.Pending() != 3 {
		t.Error(d.Pending())
	}
}

// P5.3: Sync is the disk's.
func TestSync(t *testing.T) {
	d := fresh(t, 1000)
	l := open(t, d)
	want(t, l.Put(api.Hard{Term: 1}), l.Sync())
	if d.Pending() != 0 {
		t.Error(d.Pending())
	}
	want(t, d.Arm(1, 0, 0))
	if e := l.Sync(); e != api.ErrDown {
		t.Error(e)
	}
	if e := l.Sync(); e != api.ErrDown {
		t.Error(e)
	}
}

// P5.2, P5.3: while the power is off nothing is kept; what is wrong is found ahead of that.
func TestDown(t *testing.T) {
	d := fresh(t, 1000)
	l := open(t, d)
	want(t, l.Append(row(1, 2, 1)...), l.Sync(), d.Crash(0, 0))
	text := tell(l)
	for i, x := range []struct{ got, want api.Errno }{
		{l.Put(api.Hard{Term: 1}), api.ErrDown}, {l.Put(api.Hard{Vote: 8}), api.ErrArg},
		{l.Append(entry(3, 1, "")), api.ErrDown}, {l.Append(entry(4, 1, "")), api.ErrIndex}, {l.Append(), api.OK},
		{l.Cut(1), api.ErrDown}, {l.Cut(3), api.ErrIndex},
		{l.Rebase(1, 1), api.ErrDown}, {l.Rebase(-1, 1), api.ErrIndex},
	} {
		if x.got != x.want {
			t.Error(i, x.got, x.want)
		}
	}
	has(t, l, text)
}

// P5.3: a log that Open did not make.
func TestNotMade(t *testing.T) {
	for _, l := range []*wal.Log{nil, {}, new(wal.Log)} {
		for i, e := range []api.Errno{l.Put(api.Hard{Term: 1}), l.Put(api.Hard{Term: -1}), l.Append(), l.Append(entry(1, 1, "")), l.Append(entry(5, 1, "")), l.Cut(1), l.Rebase(0, 0), l.Rebase(-1, 0), l.Sync()} {
			if e != api.ErrNil {
				t.Error(i, e)
			}
		}
		has(t, l, says(api.Hard{}, 0, 0))
		if l.Entries() != nil {
			t.Error(l.Entries())
		}
	}
}

// Rule Memory: nothing that came in is kept or changed, and nothing that is told is shared.
func TestMemory(t *testing.T) {
	l := open(t, fresh(t, 10000))
	room := []byte("abcdef")
	list := make([]api.Entry, 2, 4)
	list[0], list[1] = api.Entry{Index: 1, Term: 1, Data: room[:2:4]}, api.Entry{Index: 2, Term: 1, Data: room[2:3]}
	want(t, l.Append(list...))
	text := says(api.Hard{}, 0, 0, entry(1, 1, "ab"), entry(2, 1, "c"))
	if string(room) != "abcdef" || list[:4][2].Index != 0 || list[0].Index != 1 {
		t.Error("changed")
	}
	clear(room)
	clear(list)
	has(t, l, text)
	got := l.Entries()
	for i := range got {
		clear(got[i].Data[:cap(got[i].Data)])
	}
	clear(got[:cap(got)])
	has(t, l, text)
	ahead := l.Entries()
	want(t, l.Cut(2), l.Append(entry(2, 5, "z")))
	if string(ahead[1].Data) != "c" || ahead[1].Term != 1 {
		t.Error(ahead[1])
	}
}

// Rule Objects: two logs of two disks know nothing of one another.
func TestApart(t *testing.T) {
	d := fresh(t, 10000)
	l := open(t, d)
	want(t, l.Append(row(1, 3, 1)...))
	other := open(t, d.Clone())
	want(t, other.Cut(2), other.Append(entry(2, 8, "other")), l.Put(api.Hard{Term: 1}))
	has(t, l, says(api.Hard{Term: 1}, 0, 0, row(1, 3, 1)...))
	has(t, other, says(api.Hard{}, 0, 0, entry(1, 1, "x"), entry(2, 8, "other")))
}
