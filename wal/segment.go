package wal

import (
	"strconv"
	"strings"

	"spandrel/disk"
)

const (
	// prefix begins the name of each segment.
	prefix = "wal."
	// digits is how many of them stand behind it.
	digits = 12
	// ahead is a 1 with so many noughts: put to a number, it brings the noughts ahead of that one's digits.
	ahead = 1_000_000_000_000
)

// nameOf is a segment's name.
func nameOf(number int) string { return prefix + strconv.Itoa(ahead + number)[1:] }

// numberOf is the number of the segment that has a name; 0: none can have it.
func numberOf(name string) int {
	rest, found := strings.CutPrefix(name, prefix)
	if !found || len(rest) != digits {
		return 0
	}
	// Of what is no number Atoi answers 0.
	n, _ := strconv.Atoi(rest)
	return n
}

// segments is the numbers of all segments of a disk, rising.
func segments(d *disk.Disk) []int {
	var l []int
	for _, name := range d.List() {
		if n := numberOf(name); n > 0 {
			l = append(l, n)
		}
	}
	return l
}

// read is a segment's bytes: none, if it is not there.
func read(d *disk.Disk, number int) []byte {
	b, _ := d.Read(nameOf(number))
	return b
}
