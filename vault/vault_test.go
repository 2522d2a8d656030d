package vault_test

import (
	"bytes"
	"fmt"
	"math"
	"slices"
	"testing"

	"spandrel/api"
	"spandrel/disk"
	"spandrel/vault"
	"spandrel/wire"
)

// most is the greatest index and the greatest term.
const most = 1 << 40

// file is the name of the file of a state.
func file(index int) string { return fmt.Sprintf("snap.%013d", index) }

// data is so many bytes, of which few stand in a row.
func data(n int) []byte {
	b := make([]byte, n)
	for i := range b {
		b[i] = byte(i*7 + i>>8)
	}
	return b
}

// snap is a state of an index, with data of so many bytes.
func snap(index, size int) api.Snap {
	return api.Snap{Index: index, Term: 3, Voters: []int{0, 2, 6}, Data: data(size)}
}

// rec is a payload's record.
func rec(p []byte) []byte {
	b, _ := wire.Record(p)
	return b
}

// numbers is a record of numbers.
func numbers(l ...int) []byte {
	var p []byte
	for _, n := range l {
		p = wire.Number(p, n)
	}
	return rec(p)
}

// records is those of a state's file.
func records(s api.Snap) [][]byte {
	head := append([]int{s.Index, s.Term, len(s.Voters)}, s.Voters...)
	l := [][]byte{numbers(append(head, len(s.Data))...)}
	for rest := s.Data; len(rest) > 0; rest = rest[min(512, len(rest)):] {
		l = append(l, rec(rest[:min(512, len(rest))]))
	}
	return l
}

// bytesOf is those of a state's file.
func bytesOf(s api.Snap) []byte { return wire.Join(records(s)...) }

// fresh is a disk of some room.
func fresh(t *testing.T, room int) *disk.Disk {
	t.Helper()
	d, e := disk.New(room)
	if e != api.OK {
		t.Fatal(e)
	}
	return d
}

// laid is a disk that has just these files, for good.
func laid(t *testing.T, files map[string][]byte) *disk.Disk {
	t.Helper()
	d := fresh(t, api.MaxRoom)
	for name, b := range files {
		want(t, d.Write(name, 0, b))
	}
	want(t, d.Sync())
	return d
}

// open is the vault of a disk that has one.
func open(t *testing.T, d *disk.Disk) *vault.Vault {
	t.Helper()
	v, e := vault.Open(d)
	if e != api.OK || v == nil {
		t.Fatal(e)
	}
	return v
}

// want fails, unless all of these errors are OK.
func want(t *testing.T, l ...api.Errno) {
	t.Helper()
	for i, e := range l {
		if e != api.OK {
			t.Fatal(i, e)
		}
	}
}

// same tells whether two states are.
func same(a, b api.Snap) bool {
	return a.Index == b.Index && a.Term == b.Term && slices.Equal(a.Voters, b.Voters) && bytes.Equal(a.Data, b.Data)
}

// has fails, unless a vault has just that state; of Index 0: none.
func has(t *testing.T, v *vault.Vault, s api.Snap) {
	t.Helper()
	got, ok := v.Last()
	if ok != (s.Index > 0) || !same(got, s) {
		t.Errorf("%v %d %d %v and %d bytes, not %d %d %v and %d", ok, got.Index, got.Term, got.Voters, len(got.Data), s.Index, s.Term, s.Voters, len(s.Data))
	}
}

// holds fails, unless a disk has just these files.
func holds(t *testing.T, d *disk.Disk, files map[string][]byte) {
	t.Helper()
	var names []string
	for name, b := range files {
		names = append(names, name)
		if got, e := d.Read(name); e != api.OK || !bytes.Equal(got, b) {
			t.Errorf("%s: %v, %d bytes, not %d", name, e, len(got), len(b))
		}
	}
	slices.Sort(names)
	if l := d.List(); !slices.Equal(l, names) {
		t.Errorf("%q, not %q", l, names)
	}
}

// bad is states that may not be kept, and why.
func bad() []struct {
	s api.Snap
	e api.Errno
} {
	of := func(index, term int, voters []int, size int) api.Snap {
		return api.Snap{Index: index, Term: term, Voters: voters, Data: make([]byte, size)}
	}
	some := []int{1, 2}
	return []struct {
		s api.Snap
		e api.Errno
	}{
		{api.Snap{}, api.ErrVault},
		{of(0, 1, some, 5), api.ErrVault}, {of(-1, 1, some, 5), api.ErrVault}, {of(most+1, 1, some, 5), api.ErrVault}, {of(math.MinInt, 1, some, 5), api.ErrVault}, {of(math.MaxInt, 1, some, 5), api.ErrVault},
		{of(9, 0, some, 5), api.ErrVault}, {of(9, -1, some, 5), api.ErrVault}, {of(9, most+1, some, 5), api.ErrVault}, {of(9, math.MinInt, some, 5), api.ErrVault}, {of(9, math.MaxInt, some, 5), api.ErrVault},
		{of(9, 1, nil, 5), api.ErrVault}, {of(9, 1, []int{}, 5), api.ErrVault}, {of(9, 1, []int{7}, 5), api.ErrVault}, {of(9, 1, []int{-1}, 5), api.ErrVault}, {of(9, 1, []int{1, 1}, 5), api.ErrVault},
		{of(9, 1, []int{2, 1}, 5), api.ErrVault}, {of(9, 1, []int{0, 2, 1}, 5), api.ErrVault}, {of(9, 1, []int{0, 1, 2, 3, 4, 5, 6, 7}, 5), api.ErrVault}, {of(9, 1, []int{-1, 0}, 5), api.ErrVault}, {of(9, 1, []int{math.MinInt, math.MaxInt}, 5), api.ErrVault},
		{of(9, 1, some, api.MaxImage+1), api.ErrLong}, {of(9, 1, some, 1<<20), api.ErrLong},
		{of(0, 1, some, api.MaxImage+1), api.ErrVault}, {of(9, 1, nil, api.MaxImage+1), api.ErrVault},
	}
}

// good is states that may be kept, at the edges of what may be too, by rising indices.
func good() []api.Snap {
	l := []api.Snap{{Index: 1, Term: 1, Voters: []int{0}}, {Index: 2, Term: most, Voters: []int{6}, Data: []byte{0}}}
	for i, size := range []int{0, 1, 511, 512, 513, 1024, 1025, 5000, api.MaxImage - 1, api.MaxImage} {
		l = append(l, snap(100*(i+1), size))
	}
	return append(l, api.Snap{Index: most, Term: 2, Voters: []int{0, 1, 2, 3, 4, 5, 6}, Data: []byte("last")})
}

// The chapter's example.
func TestExample(t *testing.T) {
	v := open(t, fresh(t, 10000))
	s := api.Snap{Index: 3, Term: 1, Voters: []int{0, 1}, Data: data(600)}
	want(t, v.Save(s))
	if b, done, e := v.Piece(0); e != api.OK || done || !bytes.Equal(b, s.Data[:512]) {
		t.Error(len(b), done, e)
	}
	if b, done, e := v.Piece(512); e != api.OK || !done || !bytes.Equal(b, s.Data[512:]) {
		t.Error(len(b), done, e)
	}
	if b, done, e := v.Piece(601); e != api.ErrChunk || done || b != nil {
		t.Error(len(b), done, e)
	}
	if e := v.Save(s); e != api.ErrIndex {
		t.Error(e)
	}
	var i vault.Intake
	if b, done, e := i.Take(3, 1, 5, []byte("x"), true); e != api.ErrChunk || done || b != nil {
		t.Error(b, done, e)
	}
}

// P6.1: which states may be kept.
func TestCheck(t *testing.T) {
	for _, s := range good() {
		if e := vault.Check(s); e != api.OK {
			t.Error(s.Index, e)
		}
	}
	for i, x := range bad() {
		if e := vault.Check(x.s); e != x.e {
			t.Error(i, e, x.e)
		}
	}
}

// P6.1: a disk without states, and disks of which no vault can be.
func TestOpenNothing(t *testing.T) {
	d := fresh(t, 0)
	v := open(t, d)
	has(t, v, api.Snap{})
	if len(d.List()) != 0 {
		t.Error(d.List())
	}
	for _, d := range []*disk.Disk{nil, {}} {
		if v, e := vault.Open(d); v != nil || e != api.ErrNil {
			t.Error(e)
		}
	}
	d = laid(t, map[string][]byte{file(3): bytesOf(snap(3, 5))})
	want(t, d.Crash(0, 0))
	if v, e := vault.Open(d); v != nil || e != api.ErrDown {
		t.Error(e)
	}
}

// P6.1, P6.2: each state that may be is there again, in just its bytes.
func TestThereAgain(t *testing.T) {
	d := fresh(t, api.MaxRoom)
	v := open(t, d)
	for _, s := range good() {
		want(t, v.Save(s))
		has(t, v, s)
		holds(t, d, map[string][]byte{file(s.Index): bytesOf(s)})
		v = open(t, d)
		has(t, v, s)
		has(t, open(t, laid(t, map[string][]byte{file(s.Index): bytesOf(s)})), s)
	}
}

// P6.1: what is not all of a state's bytes and no others, or not of its name, is no state; it is dropped.
func TestOpenFiles(t *testing.T) {
	s := snap(20, 1100)
	l := records(s)
	whole := bytesOf(s)
	piece := func(from, to int) []byte { return rec(s.Data[from:to]) }
	turned := bytes.Clone(whole)
	turned[700] ^= 1
	again := func(change func(s *api.Snap)) []byte {
		c := s
		change(&c)
		return bytesOf(c)
	}
	for name, b := range map[string][]byte{
		"nothing":               nil,
		"no record":             []byte("text"),
		"no head":               wire.Join(l[1:]...),
		"a head alone":          l[0],
		"a piece less":          wire.Join(l[:3]...),
		"a byte less":           whole[:len(whole)-1],
		"a byte more":           wire.Join(whole, []byte{0}),
		"a record more":         wire.Join(whole, rec(nil)),
		"a piece more":          wire.Join(whole, l[3]),
		"the last piece ahead":  wire.Join(l[0], l[1], l[3], l[2]),
		"a byte turned":         turned,
		"other pieces":          wire.Join(l[0], piece(0, 500), piece(500, 1012), piece(1012, 1100)),
		"one long piece":        wire.Join(l[0], piece(0, 1100)),
		"an empty piece":        wire.Join(l[0], rec(nil), l[1], l[2], l[3]),
		"a short head":          wire.Join(numbers(20, 3, 3, 0, 2, 6), l[1], l[2], l[3]),
		"a long head":           wire.Join(numbers(20, 3, 3, 0, 2, 6, 1100, 0), l[1], l[2], l[3]),
		"fewer bytes told":      wire.Join(numbers(20, 3, 3, 0, 2, 6, 1099), l[1], l[2], l[3]),
		"more bytes told":       wire.Join(numbers(20, 3, 3, 0, 2, 6, 1101), l[1], l[2], l[3]),
		"huge voters":           wire.Join(numbers(20, 3, math.MaxInt), l[1], l[2], l[3]),
		"huge data":             numbers(20, 3, 1, 0, math.MaxInt),
		"a number's long form":  wire.Join(rec([]byte{0x80, 20, 3, 3, 0, 2, 6, 0x88, 0x4c}), l[1], l[2], l[3]),
		"another index":         bytesOf(snap(21, 1100)),
		"another index beneath": bytesOf(snap(19, 1100)),
		"no voters":             again(func(s *api.Snap) { s.Voters = nil }),
		"falling voters":        again(func(s *api.Snap) { s.Voters = []int{2, 1} }),
		"a voter twice":         again(func(s *api.Snap) { s.Voters = []int{2, 2} }),
		"a voter too high":      again(func(s *api.Snap) { s.Voters = []int{2, 7} }),
		"no term":               again(func(s *api.Snap) { s.Term = 0 }),
		"a term too high":       again(func(s *api.Snap) { s.Term = most + 1 }),
		"too much data":         again(func(s *api.Snap) { s.Data = data(api.MaxImage + 1) }),
	} {
		t.Run(name, func(t *testing.T) {
			d := laid(t, map[string][]byte{file(20): b})
			has(t, open(t, d), api.Snap{})
			holds(t, d, nil)
			older := snap(7, 30)
			d = laid(t, map[string][]byte{file(20): b, file(7): bytesOf(older)})
			has(t, open(t, d), older)
			holds(t, d, map[string][]byte{file(7): bytesOf(older)})
		})
	}
}

// P6.1: the state of the greatest index; all other files of a vault are dropped, and no others.
func TestOpenChoice(t *testing.T) {
	a, b, c := bytesOf(snap(99, 700)), bytesOf(snap(100, 10)), bytesOf(snap(1000, 0))
	d := laid(t, map[string][]byte{
		file(99): a, file(100): b, file(1000): c, file(0): a, file(5000): b,
		"snap.": a, "snap.1000": c, "snap.00000000001000": c, "snap.new": c, "snap.zz": c, "snap.000000000100x": c,
		"snap": a, "asnap.new": a, "sna": a, "wal.000000000001": a, "other": c,
	})
	v := open(t, d)
	has(t, v, snap(1000, 0))
	left := map[string][]byte{file(1000): c, "snap": a, "asnap.new": a, "sna": a, "wal.000000000001": a, "other": c}
	holds(t, d, left)
	if d.Pending() != 0 {
		t.Error(d.Pending())
	}
	want(t, d.Crash(0, 0), d.Start())
	holds(t, d, left)
	has(t, open(t, d), snap(1000, 0))
	d = laid(t, map[string][]byte{"snap.0000000000000": nil, "snap.new": a})
	has(t, open(t, d), api.Snap{})
	holds(t, d, nil)
}

// P6.1: files are dropped by rising names, then the disk is synced; whatever of it is struck is told.
func TestOpenActs(t *testing.T) {
	s := snap(5, 700)
	first := laid(t, map[string][]byte{file(2): bytesOf(snap(2, 3)), file(5): bytesOf(s), file(6): nil, "snap.new": nil})
	for n, names := range [][]string{
		{file(5), file(6), "snap.new"},
		{file(5), "snap.new"},
		{file(5)},
		{file(5)},
	} {
		d := first.Clone()
		want(t, d.Arm(n+1, 9, 0))
		if v, e := vault.Open(d); v != nil || e != api.ErrDown {
			t.Error(n, e)
		}
		want(t, d.Start())
		if l := d.List(); !slices.Equal(l, names) {
			t.Error(n, l)
		}
		has(t, open(t, d), s)
	}
	d := first.Clone()
	want(t, d.Arm(5, 0, 0))
	has(t, open(t, d), s)
}

// P6.2: what may not be saved changes nothing.
func TestSaveErrors(t *testing.T) {
	d := fresh(t, api.MaxRoom)
	v := open(t, d)
	for i, x := range bad() {
		if e := v.Save(x.s); e != x.e {
			t.Error(i, e, x.e)
		}
	}
	has(t, v, api.Snap{})
	s := snap(50, 600)
	want(t, v.Save(s), d.Sync())
	for i, x := range bad() {
		if e := v.Save(x.s); e != x.e {
			t.Error(i, e, x.e)
		}
	}
	for _, index := range []int{1, 49, 50} {
		if e := v.Save(snap(index, 5)); e != api.ErrIndex {
			t.Error(index, e)
		}
	}
	has(t, v, s)
	holds(t, d, map[string][]byte{file(50): bytesOf(s)})
	if d.Pending() != 0 {
		t.Error(d.Pending())
	}
	want(t, v.Save(snap(51, 5)))
}

// P6.2: each record is a write of its own; then a sync, a move, a sync, and the older file is dropped. What the vault has behind each act that is struck.
func TestSaveActs(t *testing.T) {
	old, next := snap(4, 600), snap(6, 1100)
	first := laid(t, map[string][]byte{file(4): bytesOf(old)})
	l := records(next)
	was, is := bytesOf(old), bytesOf(next)
	for n, x := range []struct {
		files map[string][]byte
		s     api.Snap
	}{
		{map[string][]byte{file(4): was, "snap.new": l[0]}, old},
		{map[string][]byte{file(4): was, "snap.new": wire.Join(l[:2]...)}, old},
		{map[string][]byte{file(4): was, "snap.new": wire.Join(l[:3]...)}, old},
		{map[string][]byte{file(4): was, "snap.new": is}, old},
		{map[string][]byte{file(4): was, "snap.new": is}, old},
		{map[string][]byte{file(4): was, file(6): is}, old},
		{map[string][]byte{file(4): was, file(6): is}, old},
		{map[string][]byte{file(6): is}, next},
	} {
		d := first.Clone()
		v := open(t, d)
		want(t, d.Arm(n+1, 9, 0))
		if e := v.Save(next); e != api.ErrDown {
			t.Error(n, e)
		}
		has(t, v, x.s)
		want(t, d.Start())
		holds(t, d, x.files)
	}
	d := first.Clone()
	v := open(t, d)
	want(t, d.Arm(9, 0, 0), v.Save(next))
	if d.Pending() != 1 {
		t.Error(d.Pending())
	}
	d = fresh(t, 10000)
	v = open(t, d)
	want(t, d.Arm(8, 0, 0), v.Save(next))
	if d.Pending() != 0 {
		t.Error(d.Pending())
	}
	if e := d.Sync(); e != api.ErrDown {
		t.Error(e)
	}
}

// P6.2: when the disk is full, what was written is given back, and what is pending lasts.
func TestSaveFull(t *testing.T) {
	old, next := snap(4, 600), snap(6, 1100)
	room := len(bytesOf(old)) + len(bytesOf(next))
	for less := range len(bytesOf(next)) + 1 {
		d := fresh(t, room-less+1)
		v := open(t, d)
		want(t, v.Save(old), d.Sync(), d.Write("other", 0, []byte{9}))
		e := v.Save(next)
		if less == 0 {
			want(t, e)
			has(t, open(t, d), next)
			continue
		}
		if e != api.ErrFull {
			t.Fatal(less, e)
		}
		has(t, v, old)
		if d.Pending() != 0 || d.Used() != len(bytesOf(old))+1 {
			t.Fatal(less, d.Pending(), d.Used())
		}
		want(t, d.Crash(0, 0), d.Start())
		holds(t, d, map[string][]byte{file(4): bytesOf(old), "other": {9}})
		has(t, open(t, d), old)
	}
	d := fresh(t, len(bytesOf(old))+len(bytesOf(snap(5, 10))))
	v := open(t, d)
	want(t, v.Save(old), d.Sync())
	if e := v.Save(next); e != api.ErrFull {
		t.Error(e)
	}
	want(t, v.Save(snap(5, 10)))
	has(t, open(t, d), snap(5, 10))
}

// P6.2: a full disk is what is told, though the power goes while the room is given back.
func TestSaveFullStruck(t *testing.T) {
	for n := 1; n <= 5; n++ {
		d := fresh(t, 700)
		v := open(t, d)
		want(t, d.Arm(n, 9, 0))
		e := v.Save(snap(6, 1100))
		if n <= 2 && e != api.ErrDown || n > 2 && e != api.ErrFull {
			t.Error(n, e)
		}
		want(t, d.Start(), d.Arm(0, 0, 0))
		has(t, open(t, d), api.Snap{})
	}
}

// P6.2: with as many files as may be there is no room for a new one; snap.new is not there to be dropped, and the disk is synced.
func TestSaveFiles(t *testing.T) {
	d := fresh(t, 10000)
	for i := range api.MaxFiles {
		want(t, d.Write(fmt.Sprint("f", i), 0, nil))
	}
	v := open(t, d)
	want(t, d.Write("f0", 0, []byte("pending")))
	if e := v.Save(snap(1, 1)); e != api.ErrFull || d.Pending() != 0 {
		t.Error(e, d.Pending())
	}
	want(t, d.Drop("f1"), v.Save(snap(1, 1)))
}

// P6.2, P6.3: while the power is off nothing is saved; what is wrong is found ahead of that, and pieces are told.
func TestDown(t *testing.T) {
	d := fresh(t, 10000)
	v := open(t, d)
	s := snap(5, 600)
	want(t, v.Save(s), d.Crash(0, 0))
	for i, x := range []struct{ got, want api.Errno }{{v.Save(snap(6, 1)), api.ErrDown}, {v.Save(snap(5, 1)), api.ErrIndex}, {v.Save(api.Snap{}), api.ErrVault}} {
		if x.got != x.want {
			t.Error(i, x.got)
		}
	}
	has(t, v, s)
	if b, done, e := v.Piece(0); e != api.OK || done || len(b) != 512 {
		t.Error(len(b), done, e)
	}
}

// P6.3: pieces, from each place on.
func TestPiece(t *testing.T) {
	v := open(t, fresh(t, api.MaxRoom))
	for _, at := range []int{0, 1, -1, math.MinInt, math.MaxInt} {
		if b, done, e := v.Piece(at); b != nil || done || e != api.ErrVault {
			t.Error(at, b, done, e)
		}
	}
	for _, s := range good() {
		want(t, v.Save(s))
		n := len(s.Data)
		for _, at := range []int{0, 1, 5, 511, 512, 513, 1024, n - 513, n - 512, n - 511, n - 1, n} {
			if at < 0 || at > n {
				continue
			}
			end := min(at+512, n)
			if b, done, e := v.Piece(at); e != api.OK || done != (end == n) || !bytes.Equal(b, s.Data[at:end]) {
				t.Error(n, at, len(b), done, e)
			}
		}
		for _, at := range []int{n + 1, n + 512, -1, -512, math.MinInt, math.MaxInt} {
			if b, done, e := v.Piece(at); b != nil || done || e != api.ErrChunk {
				t.Error(n, at, len(b), done, e)
			}
		}
	}
}

// P6.3: a vault that Open did not make.
func TestNotMade(t *testing.T) {
	for _, v := range []*vault.Vault{nil, {}, new(vault.Vault)} {
		has(t, v, api.Snap{})
		for _, s := range []api.Snap{snap(1, 1), {}, snap(1, 1<<20)} {
			if e := v.Save(s); e != api.ErrNil {
				t.Error(e)
			}
		}
		for _, at := range []int{0, -1, 5} {
			if b, done, e := v.Piece(at); b != nil || done || e != api.ErrNil {
				t.Error(b, done, e)
			}
		}
	}
}

// P6.5: wherever the power goes within Save, and whatever the disk keeps, the state is the old one or the new one; behind Save it is the new one.
func TestWholeOrNot(t *testing.T) {
	for _, old := range []api.Snap{{}, snap(4, 600), snap(5, 3000)} {
		next := snap(6, 1100)
		first := fresh(t, 10000)
		if old.Index > 0 {
			want(t, open(t, first).Save(old))
		}
		want(t, first.Sync())
		for n := 1; ; n++ {
			done := false
			for keep := range 7 {
				for _, tear := range []int{0, 1, 100, 1 << 20} {
					d := first.Clone()
					v := open(t, d)
					want(t, d.Arm(n, keep, tear))
					done = v.Save(next) == api.OK
					if done {
						want(t, d.Crash(keep, tear))
					}
					want(t, d.Start())
					again := open(t, d)
					got, _ := again.Last()
					if done && !same(got, next) || !same(got, old) && !same(got, next) {
						t.Fatal(old.Index, n, keep, tear, got.Index)
					}
					has(t, open(t, d), got)
					want(t, again.Save(snap(7, 900)))
					has(t, open(t, d), snap(7, 900))
				}
			}
			if done {
				break
			}
		}
	}
}

// Rule Memory: nothing that came in is kept or changed, and nothing that is told is shared.
func TestMemory(t *testing.T) {
	v := open(t, fresh(t, 10000))
	s, own := snap(3, 700), snap(3, 700)
	s.Voters, s.Data = append(make([]int, 0, 9), s.Voters...), append(make([]byte, 0, 900), s.Data...)
	want(t, v.Save(s))
	if !same(s, own) || slices.Max(s.Voters[3:9]) != 0 || !bytes.Equal(s.Data[700:900], make([]byte, 200)) {
		t.Error("changed")
	}
	clear(s.Voters)
	clear(s.Data)
	has(t, v, own)
	for range 2 {
		got, _ := v.Last()
		clear(got.Voters[:cap(got.Voters)])
		clear(got.Data[:cap(got.Data)])
		b, _, _ := v.Piece(0)
		clear(b[:cap(b)])
		has(t, v, own)
	}
	if b, _, _ := v.Piece(0); !bytes.Equal(b, own.Data[:512]) {
		t.Error("a piece is shared")
	}
}

// Rule Objects: two vaults of two disks know nothing of one another.
func TestApart(t *testing.T) {
	d := fresh(t, 10000)
	v := open(t, d)
	want(t, v.Save(snap(3, 10)))
	other := open(t, d.Clone())
	want(t, other.Save(snap(4, 10)), v.Save(snap(5, 10)))
	has(t, v, snap(5, 10))
	has(t, other, snap(4, 10))
}
