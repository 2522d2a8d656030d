// Package wire is layer 1: numbers, texts and records as bytes, each in one form. See ../../shared/doc/01-wire.md.
package wire

import (
	"bytes"
)

const (
	// more marks a byte behind which further groups of its number stand.
	more = 128
	// mostGroups of seven bits are a number of 63 bits.
	mostGroups = 9
	// polynomial is CRC-32's, without its highest power.
	polynomial = 0x04c11db7
)

// Number puts a number's groups of seven bits behind bytes, the highest one first.
func Number(b []byte, n int) []byte { return Join(b, groups(n)) }

// Text puts a text behind bytes.
func Text(b []byte, s string) []byte { return Join(b, groups(len(s)), []byte(s)) }

// Flag puts a yes or a no behind bytes.
func Flag(b []byte, yes bool) []byte {
	if yes {
		return Number(b, 1)
	}
	return Number(b, 0)
}

// Join is all parts, one behind the other.
func Join(parts ...[]byte) []byte {
	return bytes.Join(parts, nil)
}

// Sum is CRC-32 of parts, one behind the other, the highest bit first.
func Sum(parts ...[]byte) uint32 {
	c := ^uint32(0)
	for _, p := range parts {
		for _, x := range p {
			c = sumByte(c, x)
		}
	}
	return c
}

// sumByte is the sum behind one more byte.
func sumByte(c uint32, x byte) uint32 {
	c ^= uint32(x) << 24
	for range 8 {
		high := c >> 31
		c <<= 1
		if high == 1 {
			c ^= polynomial
		}
	}
	return c
}

// groups is a number's own bytes.
func groups(n int) []byte {
	n = max(n, 0)
	further := 0
	for n>>(7*further) >= more {
		further++
	}
	b := make([]byte, 0, mostGroups)
	for i := range further {
		b = append(b, byte(n>>(7*(further-i)))|more)
	}
	return append(b, byte(n)&(more-1))
}
