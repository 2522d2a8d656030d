package wal_test

import (
	"math/rand"
	"slices"
	"strings"
	"testing"

	"spandrel/api"
	"spandrel/disk"
	"spandrel/wal"
)

// model is what the chapter says that a log has.
type model struct {
	hard        api.Hard
	index, term int
	entries     []api.Entry
}

func (m model) text() string { return says(m.hard, m.index, m.term, m.entries...) }

func (m model) last() int { return m.index + len(m.entries) }

// put is a call of Put: what the log has behind its record, and its error if the disk takes it.
func (m model) put(h api.Hard) ([]model, api.Errno) {
	if h.Term < 0 || h.Vote > 7 {
		return nil, api.ErrArg
	}
	m.hard = h
	return []model{m}, api.OK
}

// add is a call of Append: what the log has behind each of its records.
func (m model) add(list []api.Entry) ([]model, api.Errno) {
	var l []model
	for _, e := range list {
		if e.Index != m.last()+1 || e.Term < 1 {
			return nil, api.ErrIndex
		}
		m.entries = append(slices.Clone(m.entries), e)
		l = append(l, m)
	}
	return l, api.OK
}

// cut is a call of Cut.
func (m model) cut(from int) ([]model, api.Errno) {
	if from <= m.index || from > m.last() {
		return nil, api.ErrIndex
	}
	m.entries = slices.Clone(m.entries[:from-m.index-1])
	return []model{m}, api.OK
}

// rebase is a call of Rebase.
func (m model) rebase(index, term int) ([]model, api.Errno) {
	if index < m.index || term < 0 {
		return nil, api.ErrIndex
	}
	var stay []api.Entry
	for i, e := range m.entries {
		if e.Index == index && e.Term == term {
			stay = slices.Clone(m.entries[i+1:])
		}
	}
	if index == m.index && term == m.term {
		stay = m.entries
	}
	return []model{{m.hard, index, term, stay}}, api.OK
}

// call is one that a log is asked for.
type call struct {
	do     func(l *wal.Log) api.Errno
	steps  []model // what the log has behind each record of it
	e      api.Errno
	syncs  bool // what it wrote lasts, if it was OK
	rebase bool
}

// draw is some call of a log that has all of a model.
func draw(r *rand.Rand, m model) call {
	switch r.Intn(12) {
	case 0, 1:
		h := api.Hard{Term: r.Intn(300) - 9, Vote: r.Intn(9)}
		steps, e := m.put(h)
		return call{do: func(l *wal.Log) api.Errno { return l.Put(h) }, steps: steps, e: e}
	case 2, 3, 4, 5, 6:
		var list []api.Entry
		for i := range r.Intn(4) {
			list = append(list, entry(m.last()+1+i, 1+r.Intn(2), strings.Repeat("d", r.Intn(400))))
		}
		if len(list) > 0 && r.Intn(8) == 0 {
			list[r.Intn(len(list))].Index += r.Intn(3) - 1
		}
		steps, e := m.add(list)
		return call{do: func(l *wal.Log) api.Errno { return l.Append(list...) }, steps: steps, e: e}
	case 7, 8:
		from := m.last() - r.Intn(4) + 1
		steps, e := m.cut(from)
		return call{do: func(l *wal.Log) api.Errno { return l.Cut(from) }, steps: steps, e: e}
	case 9, 10:
		return call{do: func(l *wal.Log) api.Errno { return l.Sync() }, syncs: true}
	}
	index, term := m.index+r.Intn(len(m.entries)+3)-1, r.Intn(4)-1
	steps, e := m.rebase(index, term)
	return call{do: func(l *wal.Log) api.Errno { return l.Rebase(index, term) }, steps: steps, e: e, syncs: true, rebase: true}
}

// trial is a log, its disk, and what it may have behind a crash: what it had at the last sync, and behind each record since.
type trial struct {
	t   *testing.T
	d   *disk.Disk
	l   *wal.Log
	may []model
}

func (x *trial) now() model { return x.may[len(x.may)-1] }

// among is which of some models a log has all of; below 0: of none.
func among(l *wal.Log, may []model) int {
	text := tell(l)
	return slices.IndexFunc(may, func(m model) bool { return m.text() == text })
}

// crash lets the power of other disks go wherever it may, and looks at the logs that these have then.
func (x *trial) crash(r *rand.Rand) {
	x.t.Helper()
	n := x.d.Pending()
	for keep := range n + 1 {
		for _, tear := range []int{0, 1, r.Intn(40), r.Intn(2000), 1 << 20} {
			d := x.d.Clone()
			want(x.t, d.Crash(keep, tear), d.Start())
			l := open(x.t, d)
			found := among(l, x.may)
			if found < 0 {
				x.t.Fatalf("%d of %d acts, torn %d: %.200s", keep, n, tear, tell(l))
			}
			if keep == 0 && tell(l) != x.may[0].text() || keep == n && tear == 0 && tell(l) != x.now().text() {
				x.t.Fatalf("%d of %d acts: %.200s", keep, n, tell(l))
			}
			x.goesOn(d, l, x.may[found])
		}
	}
}

// goesOn fails, unless a log is the same when it is opened again, and takes more.
func (x *trial) goesOn(d *disk.Disk, l *wal.Log, m model) {
	x.t.Helper()
	has(x.t, open(x.t, d), m.text())
	if e := l.Append(entry(m.last()+1, 5, "more")); e == api.ErrFull {
		has(x.t, open(x.t, d), m.text())
		return
	}
	m.entries = append(slices.Clone(m.entries), entry(m.last()+1, 5, "more"))
	has(x.t, l, m.text())
	has(x.t, open(x.t, d), m.text())
}

// struck lets the power of another disk go within a call, and looks at the log that this has then.
func (x *trial) struck(r *rand.Rand, c call) {
	x.t.Helper()
	for n := 1; ; n++ {
		d := x.d.Clone()
		l := open(x.t, d) // of what is pending here, all lasts
		want(x.t, d.Arm(n, r.Intn(4), r.Intn(100)*r.Intn(2)))
		e := c.do(l)
		if e != api.ErrDown {
			if e != c.e && e != api.ErrFull {
				x.t.Fatal(e, c.e)
			}
			return
		}
		want(x.t, d.Start())
		may := append([]model{x.now()}, c.steps...)
		again := open(x.t, d)
		found := among(again, may)
		if found < 0 {
			x.t.Fatalf("struck at %d: %.200s", n, tell(again))
		}
		// A Rebase's second act or sync is its sync: behind that the new one lasts.
		if c.rebase && n > 2 && tell(again) != may[1].text() {
			x.t.Fatalf("struck at %d: %.200s", n, tell(again))
		}
		x.goesOn(d, again, may[found])
	}
}

// ask asks the log for a call, and fails, unless that answers and does what the chapter says.
func (x *trial) ask(c call) {
	x.t.Helper()
	ahead, used, pending := x.now(), x.d.Used(), x.d.Pending()
	e := c.do(x.l)
	if e != c.e && e != api.ErrFull {
		x.t.Fatal(e, c.e)
	}
	if e != api.OK {
		if x.d.Used() != used || x.d.Pending() != pending {
			x.t.Fatal(e, x.d.Used(), x.d.Pending())
		}
		has(x.t, x.l, ahead.text())
		return
	}
	x.may = append(x.may, c.steps...)
	if c.syncs {
		x.may = []model{x.now()}
	}
	has(x.t, x.l, x.now().text())
}

// P5.4, P5.5, P5.6: whatever is asked for, and wherever the power goes, the log that is opened has what it had behind some record since the last sync; it is the same when opened again, and goes on; what was refused changed nothing.
func TestCrashes(t *testing.T) {
	for seed := range int64(60) {
		r := rand.New(rand.NewSource(seed))
		d := fresh(t, []int{1 << 20, 1 << 20, 6000, 2500}[seed%4])
		x := &trial{t: t, d: d, l: open(t, d), may: []model{{}}}
		for range 60 {
			c := draw(r, x.now())
			if r.Intn(4) == 0 {
				x.struck(r, c)
			}
			x.ask(c)
			if r.Intn(3) == 0 {
				x.crash(r)
			}
			if r.Intn(12) == 0 {
				x.l = open(t, d)
				has(t, x.l, x.now().text())
				x.may = []model{x.now()}
			}
		}
	}
}

// P5.4: of entries of one call a torn write keeps the first ones; what was synced ahead is there.
func TestTornAppend(t *testing.T) {
	d := fresh(t, 100000)
	l := open(t, d)
	want(t, l.Append(row(1, 2, 1)...), l.Sync(), l.Append(row(3, 6, 1)...))
	size := 0
	for _, e := range row(3, 6, 1) {
		size += len(one(e))
	}
	for tear := range size + 1 {
		whole, left := 2, size-tear
		for _, e := range row(3, 6, 1) {
			if left -= len(one(e)); left < 0 {
				break
			}
			whole++
		}
		c := d.Clone()
		want(t, c.Crash(1, tear), c.Start())
		has(t, open(t, c), says(api.Hard{}, 0, 0, row(1, whole, 1)...))
	}
}

// P5.4: a write torn at the very beginning of a log, or of a new segment, leaves what was there.
func TestTornSegment(t *testing.T) {
	d := fresh(t, 100000)
	want(t, open(t, d).Put(api.Hard{Term: 1, Vote: 1}))
	size := d.Used()
	for tear := range size + 1 {
		c := d.Clone()
		want(t, c.Crash(1, tear), c.Start())
		l := open(t, c)
		if tear == 0 {
			has(t, l, says(api.Hard{Term: 1, Vote: 1}, 0, 0))
		} else {
			has(t, l, says(api.Hard{}, 0, 0))
		}
		want(t, l.Put(api.Hard{Term: 2}))
		has(t, open(t, c), says(api.Hard{Term: 2}, 0, 0))
	}
	d = fresh(t, 100000)
	l := open(t, d)
	want(t, l.Append(entry(1, 1, strings.Repeat("x", api.Segment))), l.Sync())
	text := tell(l)
	size = d.Used()
	want(t, l.Put(api.Hard{Term: 1, Vote: 1}))
	for tear := 1; tear <= d.Used()-size; tear++ {
		c := d.Clone()
		want(t, c.Crash(1, tear), c.Start())
		l := open(t, c)
		has(t, l, text)
		want(t, l.Put(api.Hard{Term: 3}), l.Cut(1))
		has(t, open(t, c), says(api.Hard{Term: 3}, 0, 0))
	}
}

// P5.4: of a Rebase that is torn anywhere the log is the one ahead; what was pending ahead of it is there.
func TestTornRebase(t *testing.T) {
	d := fresh(t, 100000)
	l := open(t, d)
	want(t, l.Append(row(1, 4, 1)...), l.Sync(), l.Put(api.Hard{Term: 4}))
	text := tell(l)
	b := len(rec(4, 2, 1)) + len(rec(1, 4, 0)) + len(one(row(3, 3, 1)[0])) + len(one(row(4, 4, 1)[0])) + len(rec(5))
	for tear := range b + 1 {
		c := d.Clone()
		l := open(t, c)
		want(t, c.Arm(1, 1, tear))
		if e := l.Rebase(2, 1); e != api.ErrDown {
			t.Fatal(e)
		}
		has(t, l, text)
		want(t, c.Start())
		if tear == 0 {
			has(t, open(t, c), says(api.Hard{Term: 4}, 2, 1, row(3, 4, 1)...))
		} else {
			has(t, open(t, c), text)
		}
	}
}
