// Package disk is layer 2: files, of which a crash keeps what was done up to some act. See ../../shared/doc/02-disk.md.
package disk

import (
	"bytes"
	"slices"

	"spandrel/api"
)

// act is a change of files that does not last yet. It is kept as what it does, for it's done once to the files that are seen, and once more to those that last.
type act struct {
	do   func(f files, tear int)
	size int // how many bytes it wrote
}

// fuse tells which act or sync from now on is struck (0: none is), and how the power goes then.
type fuse struct {
	n, keep, tear int
}

// Disk is files as they are seen, those that last, and acts between.
type Disk struct {
	room int
	used int
	down bool
	last files // nil: no call made the disk
	seen files
	acts []act
	fuse fuse
}

// New is an empty one.
func New(room int) (*Disk, api.Errno) {
	if room < 0 || room > api.MaxRoom {
		return nil, api.ErrArg
	}
	return &Disk{room: room, last: files{}, seen: files{}}, api.OK
}

// Write puts bytes into a file, from a place on.
func (d *Disk) Write(name string, at int, b []byte) api.Errno {
	if e := d.ready(name); e != api.OK {
		return e
	}
	old, there := d.seen[name]
	switch {
	case !there && at != 0:
		return api.ErrFile
	case at < 0 || at > len(old):
		return api.ErrArg
	case !there && len(d.seen) >= api.MaxFiles:
		return api.ErrFull
	case len(b) > d.room-d.used:
		return api.ErrFull
	}
	own := bytes.Clone(b)
	return d.perform(len(own), func(f files, tear int) { f.put(name, at, own[:len(own)-tear]) })
}

// Trim leaves a file its first bytes.
func (d *Disk) Trim(name string, n int) api.Errno {
	if e := d.ready(name); e != api.OK {
		return e
	}
	old, there := d.seen[name]
	if !there {
		return api.ErrFile
	}
	if n < 0 || n > len(old) {
		return api.ErrArg
	}
	return d.perform(0, func(f files, tear int) { f.trim(name, n) })
}

// Move gives a file another name.
func (d *Disk) Move(old, name string) api.Errno {
	if e := d.ready(old); e != api.OK {
		return e
	}
	if _, there := d.seen[old]; !there {
		return api.ErrFile
	}
	if !named(name) {
		return api.ErrName
	}
	return d.perform(0, func(f files, tear int) { f.move(old, name) })
}

// Drop takes a file away.
func (d *Disk) Drop(name string) api.Errno {
	if e := d.ready(name); e != api.OK {
		return e
	}
	if _, there := d.seen[name]; !there {
		return api.ErrFile
	}
	return d.perform(0, func(f files, tear int) { f.drop(name) })
}

// Sync makes all last.
func (d *Disk) Sync() api.Errno {
	if e := d.power(); e != api.OK {
		return e
	}
	if d.struck() {
		return d.fail()
	}
	d.settle(len(d.acts), 0)
	return api.OK
}

// Read is a file's bytes.
func (d *Disk) Read(name string) ([]byte, api.Errno) {
	if e := d.ready(name); e != api.OK {
		return nil, e
	}
	b, there := d.seen[name]
	if !there {
		return nil, api.ErrFile
	}
	return bytes.Clone(b), api.OK
}

// List is the names of all files.
func (d *Disk) List() []string {
	if d.power() != api.OK {
		return nil
	}
	return d.seen.names()
}

// Used is how many bytes are not free.
func (d *Disk) Used() int {
	if d.power() != api.OK {
		return 0
	}
	return d.used
}

// Pending is how many acts do not last yet.
func (d *Disk) Pending() int {
	if d.power() != api.OK {
		return 0
	}
	return len(d.acts)
}

// Arm lets the power go at the n-th act from now on.
func (d *Disk) Arm(n, keep, tear int) api.Errno {
	if e := d.power(); e != api.OK {
		return e
	}
	d.fuse = fuse{n: max(n, 0), keep: keep, tear: tear}
	return api.OK
}

// Crash lets the power go now.
func (d *Disk) Crash(keep, tear int) api.Errno {
	if e := d.power(); e != api.OK {
		return e
	}
	d.fall(keep, tear)
	return api.OK
}

// Start lets the power come.
func (d *Disk) Start() api.Errno {
	if !d.made() {
		return api.ErrNil
	}
	d.down = false
	return api.OK
}

// Clone is another disk with all of the same.
func (d *Disk) Clone() *Disk {
	if !d.made() {
		return nil
	}
	c := *d
	c.last, c.seen, c.acts = d.last.clone(), d.seen.clone(), slices.Clone(d.acts)
	return &c
}

// made tells whether a call made the disk.
func (d *Disk) made() bool { return d != nil && d.last != nil }

// power is why nothing can be asked of the disk now.
func (d *Disk) power() api.Errno {
	switch {
	case !d.made():
		return api.ErrNil
	case d.down:
		return api.ErrDown
	}
	return api.OK
}

// ready is why nothing can be asked of a file of that name.
func (d *Disk) ready(name string) api.Errno {
	if e := d.power(); e != api.OK {
		return e
	}
	if !named(name) {
		return api.ErrName
	}
	return api.OK
}

// perform does an act that is not refused.
func (d *Disk) perform(size int, do func(f files, tear int)) api.Errno {
	do(d.seen, 0)
	d.acts = append(d.acts, act{do: do, size: size})
	d.used += size
	if d.struck() {
		return d.fail()
	}
	return api.OK
}

// struck counts an act or a sync, and tells whether it is the one that was armed.
func (d *Disk) struck() bool {
	if d.fuse.n == 0 {
		return false
	}
	d.fuse.n--
	return d.fuse.n == 0
}

// fail lets the power go as it was armed.
func (d *Disk) fail() api.Errno {
	d.fall(d.fuse.keep, d.fuse.tear)
	return api.ErrDown
}

// fall lets the power go: what lasts then is all that is seen.
func (d *Disk) fall(keep, tear int) {
	d.settle(min(max(keep, 0), len(d.acts)), max(tear, 0))
	d.seen = d.last.clone()
	d.fuse = fuse{}
	d.down = true
}

// settle does the first of the pending acts to the files that last, the last one of them torn; the others never were.
func (d *Disk) settle(keep, tear int) {
	for i, a := range d.acts[:keep] {
		off := 0
		if i == keep-1 {
			off = min(tear, a.size)
		}
		a.do(d.last, off)
	}
	d.acts = nil
	d.used = d.last.size()
}
