package disk

import (
	"bytes"
	"slices"

	"spandrel/api"
)

// files is bytes by names. Two of them share no bytes, so that each may be changed in place.
type files map[string][]byte

// named tells whether a file may have a name.
func named(name string) bool {
	if len(name) == 0 || len(name) > api.MaxName {
		return false
	}
	for i := range len(name) {
		x := name[i]
		if (x < 'a' || x > 'z') && (x < '0' || x > '9') && x != '.' {
			return false
		}
	}
	return true
}

// put writes bytes into a file from a place on that it has.
func (f files) put(name string, at int, b []byte) {
	old := f[name]
	n := copy(old[at:], b)
	f[name] = append(old, b[n:]...)
}

// trim copies what stays, so that the room of what went is not kept.
func (f files) trim(name string, n int) { f[name] = bytes.Clone(f[name][:n]) }

// move drops the old name ahead of giving the new one, for they may be the same.
func (f files) move(old, name string) {
	b := f[old]
	delete(f, old)
	f[name] = b
}

// drop takes a file away.
func (f files) drop(name string) { delete(f, name) }

// names is all names, rising.
func (f files) names() []string {
	l := make([]string, 0, len(f))
	for name := range f {
		l = append(l, name)
	}
	slices.Sort(l)
	return l
}

// size is how many bytes all files have.
func (f files) size() int {
	n := 0
	for _, b := range f {
		n += len(b)
	}
	return n
}

// clone is other files with the same bytes.
func (f files) clone() files {
	c := make(files, len(f))
	for name, b := range f {
		c[name] = bytes.Clone(b)
	}
	return c
}
