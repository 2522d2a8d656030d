package disk_test

import (
	"maps"
	"math/rand"
	"slices"
	"testing"

	"spandrel/api"
	"spandrel/disk"
)

// model is what the document says of a disk, told the plain way: all files behind each act, from the last sync on.
type model struct {
	room   int
	down   bool
	states []map[string]string // the first one lasts, the last one is seen
	writes []write             // the act that led from states[i] to states[i+1]
	n      int
	keep   int
	tear   int
}

// write is a pending act: of one that is no write, the name is empty.
type write struct {
	name string
	at   int
	text string
}

func newModel(room int) *model { return &model{room: room, states: []map[string]string{{}}} }

func (m *model) seen() map[string]string { return m.states[len(m.states)-1] }

func (m *model) used() int {
	n := 0
	for _, text := range m.states[0] {
		n += len(text)
	}
	for _, w := range m.writes {
		n += len(w.text)
	}
	return n
}

// over is a text with another one from a place on.
func over(old string, at int, text string) string {
	rest := ""
	if at+len(text) < len(old) {
		rest = old[at+len(text):]
	}
	return old[:at] + text + rest
}

func (m *model) act(w write, change func(f map[string]string)) api.Errno {
	f := maps.Clone(m.seen())
	change(f)
	m.states = append(m.states, f)
	m.writes = append(m.writes, w)
	return m.strike()
}

func (m *model) strike() api.Errno {
	m.n--
	if m.n != 0 {
		return api.OK
	}
	m.crash(m.keep, m.tear)
	return api.ErrDown
}

func (m *model) crash(keep, tear int) {
	keep = max(0, min(keep, len(m.writes)))
	f := m.states[keep]
	if keep > 0 && m.writes[keep-1].name != "" {
		w := m.writes[keep-1]
		f = maps.Clone(m.states[keep-1])
		f[w.name] = over(f[w.name], w.at, w.text[:len(w.text)-max(0, min(tear, len(w.text)))])
	}
	m.states, m.writes, m.down, m.n = []map[string]string{f}, nil, true, 0
}

// do is one call, of a disk and of its model: both answers.
func do(r *rand.Rand, d *disk.Disk, m *model) (string, api.Errno, api.Errno) {
	pool := []string{"a", "b", "c", "d.1", "X", ""}
	name, other := pool[r.Intn(len(pool))], pool[r.Intn(len(pool))]
	text := make([]byte, r.Intn(6))
	r.Read(text)
	at, keep, tear := r.Intn(12)-1, r.Intn(8)-1, r.Intn(8)-1
	if size := len(m.seen()[name]); r.Intn(2) == 0 {
		at = r.Intn(size + 1)
	}
	switch r.Intn(16) {
	case 0, 1, 2, 3, 4, 5:
		return "write", d.Write(name, at, text), m.write(name, at, string(text))
	case 6:
		return "trim", d.Trim(name, at), m.trim(name, at)
	case 7, 8:
		return "move", d.Move(name, other), m.move(name, other)
	case 9:
		return "drop", d.Drop(name), m.drop(name)
	case 10:
		return "sync", d.Sync(), m.sync()
	case 11:
		return "crash", d.Crash(keep, tear), m.cut(keep, tear)
	case 12:
		return "arm", d.Arm(keep, tear, at), m.arm(keep, tear, at)
	}
	m.down = false
	return "start", d.Start(), api.OK
}

func (m *model) why(name string) api.Errno {
	if m.down {
		return api.ErrDown
	}
	if name == "" || name == "X" {
		return api.ErrName
	}
	return api.OK
}

func (m *model) write(name string, at int, text string) api.Errno {
	if e := m.why(name); e != api.OK {
		return e
	}
	old, ok := m.seen()[name]
	if !ok && at != 0 {
		return api.ErrFile
	}
	if at < 0 || at > len(old) {
		return api.ErrArg
	}
	if m.used()+len(text) > m.room {
		return api.ErrFull
	}
	return m.act(write{name, at, text}, func(f map[string]string) { f[name] = over(old, at, text) })
}

func (m *model) trim(name string, n int) api.Errno {
	if e := m.why(name); e != api.OK {
		return e
	}
	old, ok := m.seen()[name]
	if !ok {
		return api.ErrFile
	}
	if n < 0 || n > len(old) {
		return api.ErrArg
	}
	return m.act(write{}, func(f map[string]string) { f[name] = old[:n] })
}

func (m *model) move(old, name string) api.Errno {
	if e := m.why(old); e != api.OK {
		return e
	}
	text, ok := m.seen()[old]
	if !ok {
		return api.ErrFile
	}
	if e := m.why(name); e != api.OK {
		return e
	}
	return m.act(write{}, func(f map[string]string) {
		delete(f, old)
		f[name] = text
	})
}

func (m *model) drop(name string) api.Errno {
	if e := m.why(name); e != api.OK {
		return e
	}
	if _, ok := m.seen()[name]; !ok {
		return api.ErrFile
	}
	return m.act(write{}, func(f map[string]string) { delete(f, name) })
}

func (m *model) sync() api.Errno {
	if m.down {
		return api.ErrDown
	}
	if e := m.strike(); e != api.OK {
		return e
	}
	m.states, m.writes = m.states[len(m.states)-1:], nil
	return api.OK
}

func (m *model) cut(keep, tear int) api.Errno {
	if m.down {
		return api.ErrDown
	}
	m.crash(keep, tear)
	return api.OK
}

func (m *model) arm(n, keep, tear int) api.Errno {
	if m.down {
		return api.ErrDown
	}
	m.n, m.keep, m.tear = max(n, 0), keep, tear
	return api.OK
}

func (m *model) clone() *model {
	c := *m
	c.states, c.writes = slices.Clone(m.states), slices.Clone(m.writes)
	return &c
}

// same fails, unless a disk tells what its model does.
func same(t *testing.T, d *disk.Disk, m *model) {
	t.Helper()
	if m.down {
		if d.List() != nil || d.Used() != 0 || d.Pending() != 0 {
			t.Fatal("told while off")
		}
		return
	}
	seen := m.seen()
	if l := d.List(); !slices.Equal(l, slices.Sorted(maps.Keys(seen))) {
		t.Fatalf("%q, not %q", l, seen)
	}
	for name, text := range seen {
		if b, e := d.Read(name); e != api.OK || string(b) != text {
			t.Fatalf("%s: %q %v, not %q", name, b, e, text)
		}
	}
	if d.Used() != m.used() || d.Used() > m.room || d.Pending() != len(m.writes) {
		t.Fatal(d.Used(), m.used(), d.Pending(), len(m.writes))
	}
}

// P2.1 to P2.10: whatever is called, a disk tells what its model does; so do its clones, each going its own way.
func TestModel(t *testing.T) {
	for seed := range 300 {
		r := rand.New(rand.NewSource(int64(seed)))
		room := r.Intn(60)
		d, e := disk.New(room)
		if e != api.OK {
			t.Fatal(e)
		}
		disks, models := []*disk.Disk{d}, []*model{newModel(room)}
		for step := range 300 {
			i := r.Intn(len(disks))
			if len(disks) < 4 && r.Intn(40) == 0 {
				disks, models = append(disks, disks[i].Clone()), append(models, models[i].clone())
			}
			name, got, want := do(r, disks[i], models[i])
			if got != want {
				t.Fatalf("seed %d, step %d, %s: %v, not %v", seed, step, name, got, want)
			}
			for j := range disks {
				same(t, disks[j], models[j])
			}
		}
	}
}

// P2.8: behind Crash(keep, 0) a disk has the files of one on which the later acts were never done.
func TestBeginning(t *testing.T) {
	for seed := range 200 {
		r := rand.New(rand.NewSource(int64(seed)))
		d, _ := disk.New(1000)
		m := newModel(1000)
		behind := []*disk.Disk{d.Clone()}
		for len(behind) < 12 {
			ahead, clone := d.Pending(), m.clone()
			name, _, _ := do(r, d, m)
			if name == "arm" || m.down || d.Pending() < ahead {
				d, m = behind[len(behind)-1].Clone(), clone
				continue
			}
			if d.Pending() > ahead {
				behind = append(behind, d.Clone())
			}
		}
		for keep := range behind {
			crashed, never := d.Clone(), behind[keep]
			if crashed.Crash(keep, 0) != api.OK || crashed.Start() != api.OK || never.Sync() != api.OK {
				t.Fatal("crash")
			}
			if !slices.Equal(crashed.List(), never.List()) {
				t.Fatal(crashed.List(), never.List())
			}
			for _, name := range never.List() {
				a, _ := crashed.Read(name)
				b, _ := never.Read(name)
				if string(a) != string(b) {
					t.Fatalf("%s: %q, not %q", name, a, b)
				}
			}
		}
	}
}
