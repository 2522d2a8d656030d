package wire

import (
	"bytes"

	"spandrel/api"
)

// strip is bytes, of which those ahead of at were read. What has an error reads nothing.
type strip struct {
	b  []byte
	at int
}

// left is how many bytes were not read.
func (s *strip) left() int { return len(s.b) - s.at }

// number reads a number.
func (s *strip) number() (int, api.Errno) {
	rest := s.b[s.at:]
	if len(rest) > 0 && rest[0] == more {
		return 0, api.ErrForm
	}
	n := 0
	for i, x := range rest {
		if i == mostGroups {
			return 0, api.ErrRange
		}
		n = n<<7 | int(x&(more-1))
		if x < more {
			s.at += i + 1
			return n, api.OK
		}
	}
	return 0, api.ErrShort
}

// text reads a text of at most so many bytes.
func (s *strip) text(most int) (string, api.Errno) {
	begin := s.at
	n, e := s.number()
	switch {
	case e != api.OK:
	case n > max(most, 0):
		e = api.ErrLong
	case n > s.left():
		e = api.ErrShort
	default:
		s.at += n
		return string(s.b[s.at-n : s.at]), api.OK
	}
	s.at = begin
	return "", e
}

// flag reads a yes or a no.
func (s *strip) flag() (bool, api.Errno) {
	begin := s.at
	n, e := s.number()
	if n > 1 {
		s.at = begin
		return false, api.ErrForm
	}
	return n == 1, e
}

// Scan reads bytes up to the first error, which it keeps.
type Scan struct {
	strip
	err  api.Errno
	made bool
}

// Over is one over a copy of bytes.
func Over(b []byte) *Scan { return &Scan{strip: strip{b: bytes.Clone(b)}, made: true} }

// Err is the first error.
func (s *Scan) Err() api.Errno {
	if s == nil || !s.made {
		return api.ErrNil
	}
	return s.err
}

// Left is how many bytes were not read.
func (s *Scan) Left() int {
	if s == nil {
		return 0
	}
	return s.left()
}

// Number is the next number.
func (s *Scan) Number() int {
	if s.Err() != api.OK {
		return 0
	}
	n, e := s.number()
	s.err = e
	return n
}

// Text is the next text, of at most so many bytes.
func (s *Scan) Text(most int) string {
	if s.Err() != api.OK {
		return ""
	}
	t, e := s.text(most)
	s.err = e
	return t
}

// Flag is the next yes or no.
func (s *Scan) Flag() bool {
	if s.Err() != api.OK {
		return false
	}
	yes, e := s.flag()
	s.err = e
	return yes
}

// End tells the first error, or whether something is left.
func (s *Scan) End() api.Errno {
	if e := s.Err(); e != api.OK {
		return e
	}
	if s.left() > 0 {
		s.err = api.ErrMore
	}
	return s.err
}
