package near_test

import (
	"bytes"
	"slices"
	"testing"

	"spandrel/api"
	"spandrel/near"
)

// Each other byte at each place, and one more at each.
func TestTurned(t *testing.T) {
	b := []byte{1, 2}
	seen := map[string]bool{}
	for l := range near.Turned(b) {
		seen[string(l)] = true
	}
	all := map[string]bool{}
	for x := range 256 {
		for _, l := range [][]byte{{byte(x), 2}, {1, byte(x)}, {byte(x), 1, 2}, {1, byte(x), 2}, {1, 2, byte(x)}} {
			all[string(l)] = true
			if seen[string(l)] == bytes.Equal(l, b) {
				t.Error(l)
			}
		}
	}
	if len(seen) != len(all)-1 || !bytes.Equal(b, []byte{1, 2}) {
		t.Error(len(seen), len(all), b)
	}
}

// One who has enough gets no more.
func TestTurnedBreaks(t *testing.T) {
	for enough := range 5 {
		n := 0
		for range near.Turned([]byte{1, 2}) {
			if n == enough {
				break
			}
			n++
		}
		if n != enough {
			t.Error(n)
		}
	}
}

// What is taken in two forms, refused for another reason, or taken though it is cut off, is a stray.
func TestStrays(t *testing.T) {
	b := []byte{1, 2}
	for _, x := range []struct {
		name  string
		again func([]byte) ([]byte, api.Errno)
		want  [][]byte
	}{
		{"one form", func(b []byte) ([]byte, api.Errno) {
			if len(b) != 2 {
				return nil, api.ErrForm
			}
			return b, api.OK
		}, nil},
		{"two forms", func(b []byte) ([]byte, api.Errno) {
			if len(b) != 2 {
				return nil, api.ErrForm
			}
			return []byte{b[0] &^ 2, b[1]}, api.OK
		}, nil},
		{"another reason", func(b []byte) ([]byte, api.Errno) {
			if bytes.Equal(b, []byte{1, 2, 9}) {
				return nil, api.ErrSum
			}
			return nil, api.ErrForm
		}, [][]byte{{1, 2, 9}}},
		{"cut off", func(b []byte) ([]byte, api.Errno) {
			return b, api.OK
		}, [][]byte{{}, {1}}},
	} {
		got := near.Strays(b, api.ErrForm, x.again)
		if x.name == "two forms" {
			if !slices.ContainsFunc(got, func(l []byte) bool { return bytes.Equal(l, []byte{3, 2}) }) || len(got) != 128 {
				t.Error(x.name, len(got))
			}
		} else if !slices.EqualFunc(got, x.want, bytes.Equal) {
			t.Error(x.name, got)
		}
	}
}
