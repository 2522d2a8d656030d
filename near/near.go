// Package near holds bytes of which there is one form against others that are nearly the same. Tests use it.
package near

import (
	"bytes"
	"iter"
	"slices"

	"spandrel/api"
)

// Strays is what is nearly some bytes, and comes to something that it may not: again reads bytes, and puts what it read, or tells why it refuses them.
// Beginnings of the bytes are to be refused for that reason; bytes with another one, or one more, are to be refused likewise, or put as they were.
func Strays(b []byte, reason api.Errno, again func([]byte) ([]byte, api.Errno)) [][]byte {
	var l [][]byte
	for i := range b {
		if _, e := again(b[:i]); e != reason {
			l = append(l, bytes.Clone(b[:i]))
		}
	}
	for other := range Turned(b) {
		if put, e := again(other); e != reason && (e != api.OK || !bytes.Equal(put, other)) {
			l = append(l, other)
		}
	}
	return l
}

// Turned goes through all bytes that have at one place another byte than some others, or one more there.
func Turned(b []byte) iter.Seq[[]byte] {
	return func(yield func([]byte) bool) {
		for i := range len(b) + 1 {
			for x := range 256 {
				if !yield(slices.Insert(bytes.Clone(b), i, byte(x))) {
					return
				}
				if i < len(b) && byte(x) != b[i] && !yield(slices.Replace(bytes.Clone(b), i, i+1, byte(x))) {
					return
				}
			}
		}
	}
}
