package session_test

import (
	"bytes"
	"math"
	"math/rand"
	"slices"
	"testing"

	"spandrel/api"
	"spandrel/near"
	"spandrel/session"
	"spandrel/wire"
)

// most is the greatest number that a session may have anywhere.
const most = 1 << 40

// with is a table of sessions that were opened, of these numbers.
func with(t *testing.T, l ...int) *session.Table {
	t.Helper()
	s := session.New()
	for _, at := range l {
		want(t, s.Open(at), api.OK)
	}
	return s
}

// want fails unless an error is the one that is to come.
func want(t *testing.T, e, right api.Errno) {
	t.Helper()
	if e != right {
		t.Fatal(e, "not", right)
	}
}

// told fails unless an Ask answers just that.
func told(t *testing.T, s *session.Table, id, seq int, r api.Reply, done bool, right api.Errno) {
	t.Helper()
	if got, d, e := s.Ask(id, seq); got != r || d != done || e != right {
		t.Fatalf("%d %d: %+v %v %v, not %+v %v %v", id, seq, got, d, e, r, done, right)
	}
}

// holds fails unless a table has just these sessions.
func holds(t *testing.T, s *session.Table, l ...api.Seat) {
	t.Helper()
	if !slices.Equal(s.Seats(), l) {
		t.Fatalf("%+v, not %+v", s.Seats(), l)
	}
	if !bytes.Equal(s.Image(), image(l...)) {
		t.Fatal(s.Image())
	}
}

// image is the bytes of sessions, as they come.
func image(l ...api.Seat) []byte {
	b := wire.Number(nil, len(l))
	for _, s := range l {
		r, c := s.Reply, s.Reply.Counts
		for _, n := range []int{s.Session, s.Seq, s.At, int(r.Err), r.Session, r.Gone, c.Added, c.Same, c.Other, c.Cycle, c.Full} {
			b = wire.Number(b, n)
		}
	}
	return b
}

// reply is one of which each number is another one.
func reply(n int) api.Reply {
	return api.Reply{Err: api.Errno(n), Session: n + 1, Gone: n + 2, Counts: api.Counts{Added: n + 3, Same: n + 4, Other: n + 5, Cycle: n + 6, Full: n + 7}}
}

// set is the places of a reply's numbers.
func set(r *api.Reply) []func(int) {
	return []func(int){
		func(n int) { r.Err = api.Errno(n) },
		func(n int) { r.Session = n },
		func(n int) { r.Gone = n },
		func(n int) { r.Counts.Added = n },
		func(n int) { r.Counts.Same = n },
		func(n int) { r.Counts.Other = n },
		func(n int) { r.Counts.Cycle = n },
		func(n int) { r.Counts.Full = n },
	}
}

// The chapter's example.
func TestExample(t *testing.T) {
	s := with(t, 5)
	told(t, s, 5, 1, api.Reply{}, false, api.OK)
	want(t, s.Keep(5, 1, 7, api.Reply{Gone: 2}), api.OK)
	told(t, s, 5, 1, api.Reply{Gone: 2}, true, api.OK)
	told(t, s, 5, 3, api.Reply{}, false, api.ErrGap)
	told(t, s, 5, 0, api.Reply{}, false, api.ErrOld)
	if n := s.Expire(8); n != 1 {
		t.Error(n)
	}
	told(t, s, 5, 2, api.Reply{}, false, api.ErrSession)
}

// P8.1: each number of a reply may be 0 to 2^40.
func TestCheck(t *testing.T) {
	for _, r := range []api.Reply{{}, reply(1), reply(most - 7)} {
		want(t, session.Check(r), api.OK)
	}
	for i := range 8 {
		r := reply(1)
		for _, n := range []int{-1, math.MinInt, most + 1, math.MaxInt} {
			set(&r)[i](n)
			want(t, session.Check(r), api.ErrArg)
		}
		for _, n := range []int{0, most} {
			set(&r)[i](n)
			want(t, session.Check(r), api.OK)
		}
	}
}

// P8.1: which sessions may begin, and how they do.
func TestOpen(t *testing.T) {
	s := with(t, 7, 1, most)
	holds(t, s, api.Seat{Session: 1, At: 1}, api.Seat{Session: 7, At: 7}, api.Seat{Session: most, At: most})
	for _, at := range []int{0, -1, math.MinInt, most + 1, math.MaxInt, 7, 1, most} {
		want(t, s.Open(at), api.ErrArg)
	}
	holds(t, session.New())
	holds(t, s, api.Seat{Session: 1, At: 1}, api.Seat{Session: 7, At: 7}, api.Seat{Session: most, At: most})
}

// P8.1: of as many sessions as may be, ErrArg comes ahead of ErrFull; what ended leaves room.
func TestOpenFull(t *testing.T) {
	s := with(t, 8, 7, 6, 5, 4, 3, 2, 1)
	was := s.Image()
	want(t, s.Open(9), api.ErrFull)
	want(t, s.Open(most), api.ErrFull)
	for _, at := range []int{8, 1, 0, most + 1} {
		want(t, s.Open(at), api.ErrArg)
	}
	if !bytes.Equal(s.Image(), was) {
		t.Error(s.Seats())
	}
	if s.Expire(2) != 1 || s.Open(1) != api.OK || s.Open(9) != api.ErrFull {
		t.Error(s.Seats())
	}
}

// P8.2: an Ask ahead of, at and behind what was answered last.
func TestAsk(t *testing.T) {
	s := with(t, 2, 4)
	for _, seq := range []int{0, -1, math.MinInt} {
		told(t, s, 2, seq, api.Reply{}, false, api.ErrOld)
	}
	for _, seq := range []int{2, 3, most, math.MaxInt} {
		told(t, s, 2, seq, api.Reply{}, false, api.ErrGap)
	}
	for _, id := range []int{0, 1, 3, 5, -1, math.MinInt, math.MaxInt} {
		for _, seq := range []int{-1, 0, 1, 2} {
			told(t, s, id, seq, api.Reply{}, false, api.ErrSession)
		}
	}
	want(t, s.Keep(2, 1, 9, reply(1)), api.OK)
	want(t, s.Keep(2, 2, 10, reply(2)), api.OK)
	told(t, s, 2, 1, api.Reply{}, false, api.ErrOld)
	told(t, s, 2, 0, api.Reply{}, false, api.ErrOld)
	for range 3 {
		told(t, s, 2, 2, reply(2), true, api.OK)
	}
	told(t, s, 2, 3, api.Reply{}, false, api.OK)
	told(t, s, 2, 4, api.Reply{}, false, api.ErrGap)
	told(t, s, 4, 1, api.Reply{}, false, api.OK)
	holds(t, s, api.Seat{Session: 2, Seq: 2, At: 10, Reply: reply(2)}, api.Seat{Session: 4, At: 4})
}

// P8.2: what is not kept, the first error ahead of others, and that nothing has changed then.
func TestKeepRefuses(t *testing.T) {
	s := with(t, 2)
	want(t, s.Keep(2, 1, 9, reply(1)), api.OK)
	for _, x := range []struct {
		id, seq, at int
		r           api.Reply
		e           api.Errno
	}{
		{3, 1, 9, reply(1), api.ErrSession},
		{3, 0, 0, reply(-9), api.ErrSession},
		{0, 1, 9, reply(1), api.ErrSession},
		{2, 0, 9, reply(1), api.ErrOld},
		{2, -1, 0, reply(-9), api.ErrOld},
		{2, 1, 9, reply(1), api.ErrOld},
		{2, 1, 0, reply(-9), api.ErrOld},
		{2, 3, 9, reply(1), api.ErrGap},
		{2, 3, 0, reply(-9), api.ErrGap},
		{2, most + 1, 9, reply(1), api.ErrGap},
		{2, 2, 0, reply(1), api.ErrArg},
		{2, 2, -1, reply(1), api.ErrArg},
		{2, 2, most + 1, reply(1), api.ErrArg},
		{2, 2, math.MaxInt, reply(1), api.ErrArg},
		{2, 2, 9, reply(-1), api.ErrArg},
		{2, 2, 9, reply(most), api.ErrArg},
	} {
		want(t, s.Keep(x.id, x.seq, x.at, x.r), x.e)
		holds(t, s, api.Seat{Session: 2, Seq: 1, At: 9, Reply: reply(1)})
	}
	want(t, s.Keep(2, 2, 1, reply(most-7)), api.OK)
	holds(t, s, api.Seat{Session: 2, Seq: 2, At: 1, Reply: reply(most - 7)})
	want(t, s.Keep(2, 3, most, api.Reply{}), api.OK)
	holds(t, s, api.Seat{Session: 2, Seq: 3, At: most})
}

// P8.2: the last number that may be kept.
func TestKeepLast(t *testing.T) {
	s, e := session.Load(image(api.Seat{Session: 1, Seq: most - 1, At: 1}))
	want(t, e, api.OK)
	want(t, s.Keep(1, most, 5, reply(1)), api.OK)
	told(t, s, 1, most+1, api.Reply{}, false, api.OK)
	want(t, s.Keep(1, most+1, 5, reply(1)), api.ErrArg)
	want(t, s.Keep(1, most+2, 5, reply(1)), api.ErrGap)
	want(t, s.Keep(1, math.MaxInt, 5, reply(1)), api.ErrGap)
	told(t, s, 1, most, reply(1), true, api.OK)
}

// P8.2, P8.7: those go that rested since before, and each other one is as it was.
func TestExpire(t *testing.T) {
	s := with(t, 3, 5, 8, 9)
	want(t, s.Keep(3, 1, 20, reply(1)), api.OK)
	want(t, s.Keep(9, 1, 4, reply(2)), api.OK)
	all := s.Clone()
	for _, x := range []struct{ from, gone int }{{math.MinInt, 0}, {-1, 0}, {4, 0}, {5, 1}, {5, 0}, {8, 1}, {9, 1}, {20, 0}} {
		if n := s.Expire(x.from); n != x.gone {
			t.Error(x, n)
		}
	}
	holds(t, s, api.Seat{Session: 3, Seq: 1, At: 20, Reply: reply(1)})
	told(t, s, 3, 1, reply(1), true, api.OK)
	for _, id := range []int{5, 8, 9} {
		told(t, s, id, 1, api.Reply{}, false, api.ErrSession)
		want(t, s.Keep(id, 1, 30, reply(1)), api.ErrSession)
	}
	want(t, s.Open(9), api.OK)
	told(t, s, 9, 1, api.Reply{}, false, api.OK)
	if all.Expire(math.MaxInt) != 4 || all.Expire(math.MaxInt) != 0 {
		t.Error(all.Seats())
	}
	holds(t, all)
}

// P8.3: the bytes of a table, spelt out.
func TestImage(t *testing.T) {
	s := with(t, 300, 2)
	want(t, s.Keep(2, 1, 128, reply(5)), api.OK)
	right := []byte{2, 2, 1, 0x81, 0, 5, 6, 7, 8, 9, 10, 11, 12, 0x82, 0x2c, 0, 0x82, 0x2c, 0, 0, 0, 0, 0, 0, 0, 0}
	if !bytes.Equal(s.Image(), right) {
		t.Error(s.Image())
	}
	l, e := session.Load(right)
	want(t, e, api.OK)
	holds(t, l, api.Seat{Session: 2, Seq: 1, At: 128, Reply: reply(5)}, api.Seat{Session: 300, At: 300})
	if b := session.New().Image(); !bytes.Equal(b, []byte{0}) {
		t.Error(b)
	}
}

// seats is so many sessions, from 1 on.
func seats(n int) []api.Seat {
	var l []api.Seat
	for i := range n {
		l = append(l, api.Seat{Session: i + 1, Seq: i, At: 50 - i, Reply: reply(i)})
	}
	return l
}

// P8.3: bytes that are a table's, whether calls could lead to it or not.
func TestLoad(t *testing.T) {
	for _, l := range [][]api.Seat{
		nil,
		{{Session: 1, At: 1}},
		{{Session: 9, At: 1}},
		{{Session: 9, Seq: 0, At: 3, Reply: reply(1)}},
		{{Session: most, Seq: most, At: most, Reply: reply(most - 7)}},
		seats(8),
	} {
		s, e := session.Load(image(l...))
		want(t, e, api.OK)
		holds(t, s, l...)
	}
	s, _ := session.Load(image(api.Seat{Session: 9, At: 3, Reply: reply(1)}))
	told(t, s, 9, 0, api.Reply{}, false, api.ErrOld)
	told(t, s, 9, 1, api.Reply{}, false, api.OK)
}

// P8.3: bytes that are no table's.
func TestLoadRefuses(t *testing.T) {
	one, two := api.Seat{Session: 1, At: 1}, api.Seat{Session: 2, At: 2}
	long := func(place int) []byte {
		b := wire.Number(nil, 1)
		for i := range 11 {
			n := 1
			if i == place {
				n = most + 1
			}
			b = wire.Number(b, n)
		}
		return b
	}
	bad := map[string][]byte{
		"nothing":                   nil,
		"empty":                     {},
		"further bytes":             append(image(one), 0),
		"further bytes behind none": {0, 0},
		"a long number":             {0x80, 0},
		"too few":                   append(wire.Number(nil, 2), image(one)[1:]...),
		"too many":                  append(wire.Number(nil, 1), image(one, two)[1:]...),
		"a huge count":              append(wire.Number(nil, math.MaxInt), image(one)[1:]...),
		"no number":                 bytes.Repeat([]byte{0xff}, 12),
		"Session 0":                 image(api.Seat{At: 1}),
		"At 0":                      image(api.Seat{Session: 1}),
		"falling":                   image(two, one),
		"twice":                     image(one, one),
		"twice, otherwise":          image(one, api.Seat{Session: 1, At: 2}),
		"nine":                      image(seats(9)...),
		"eight and one twice":       image(append(seats(8), seats(8)[7])...),
	}
	for name, b := range bad {
		if s, e := session.Load(b); s != nil || e != api.ErrTable {
			t.Error(name, e)
		}
	}
	for i := range 11 {
		if s, e := session.Load(long(i)); s != nil || e != api.ErrTable {
			t.Error("too great a number", i, e)
		}
	}
}

// P8.3, P8.6: an image that is cut off, or has another byte or one more, is none, or another table's own.
func TestLoadTurned(t *testing.T) {
	b := image(api.Seat{Session: 3, Seq: 200, At: 300, Reply: reply(126)}, api.Seat{Session: 9, At: 9}, api.Seat{Session: most, Seq: most, At: most, Reply: reply(most - 7)})
	for _, stray := range near.Strays(b, api.ErrTable, func(b []byte) ([]byte, api.Errno) {
		s, e := session.Load(b)
		return s.Image(), e
	}) {
		t.Error(stray)
	}
}

// P8.3: a clone and a table that was loaded go their own way.
func TestApart(t *testing.T) {
	s := with(t, 1, 2)
	c := s.Clone()
	l, e := session.Load(s.Image())
	want(t, e, api.OK)
	want(t, s.Keep(1, 1, 5, reply(1)), api.OK)
	want(t, c.Open(3), api.OK)
	if l.Expire(2) != 1 {
		t.Error(l.Seats())
	}
	holds(t, s, api.Seat{Session: 1, Seq: 1, At: 5, Reply: reply(1)}, api.Seat{Session: 2, At: 2})
	holds(t, c, api.Seat{Session: 1, At: 1}, api.Seat{Session: 2, At: 2}, api.Seat{Session: 3, At: 3})
	holds(t, l, api.Seat{Session: 2, At: 2})
	holds(t, session.New())
}

// DOC.md, Memory: answers are new, and bytes that were handed in are not kept.
func TestMemory(t *testing.T) {
	b := image(seats(3)...)
	given := bytes.Clone(b)
	s, _ := session.Load(b)
	if !bytes.Equal(b, given) {
		t.Fatal(b)
	}
	clear(b)
	l := s.Seats()
	clear(l[:cap(l)])
	i := s.Image()
	clear(i[:cap(i)])
	holds(t, s, seats(3)...)
}

// P8.3; DOC.md, Objects: tables that no call made.
func TestNoTable(t *testing.T) {
	for _, s := range []*session.Table{nil, {}} {
		for _, at := range []int{0, 1} {
			want(t, s.Open(at), api.ErrNil)
			told(t, s, at, 1, api.Reply{}, false, api.ErrNil)
			want(t, s.Keep(at, 1, at, reply(-at)), api.ErrNil)
		}
		if s.Expire(math.MaxInt) != 0 || s.Seats() != nil || s.Image() != nil || s.Clone() != nil {
			t.Error("a table that no call made tells something")
		}
	}
}

// plain is sessions in a row, as they came.
type plain []api.Seat

// at is where a session stands; below 0: nowhere.
func (p plain) at(id int) int {
	return slices.IndexFunc(p, func(s api.Seat) bool { return s.Session == id })
}

// ask is what chapter 8 says of an Ask, line by line.
func (p plain) ask(id, seq int) (api.Reply, bool, api.Errno) {
	i := p.at(id)
	if i < 0 {
		return api.Reply{}, false, api.ErrSession
	}
	if seq < p[i].Seq || seq < 1 {
		return api.Reply{}, false, api.ErrOld
	}
	if seq == p[i].Seq {
		return p[i].Reply, true, api.OK
	}
	if seq != p[i].Seq+1 {
		return api.Reply{}, false, api.ErrGap
	}
	return api.Reply{}, false, api.OK
}

// open is what it says of an Open.
func (p *plain) open(at int) api.Errno {
	if at < 1 || p.at(at) >= 0 {
		return api.ErrArg
	}
	if len(*p) == 8 {
		return api.ErrFull
	}
	*p = append(*p, api.Seat{Session: at, At: at})
	return api.OK
}

// keep is what it says of a Keep.
func (p *plain) keep(id, seq, at int, r api.Reply) api.Errno {
	_, done, e := p.ask(id, seq)
	if e != api.OK {
		return e
	}
	if done {
		return api.ErrOld
	}
	if at < 1 || r.Gone < 0 {
		return api.ErrArg
	}
	(*p)[p.at(id)] = api.Seat{Session: id, Seq: seq, At: at, Reply: r}
	return api.OK
}

// expire is what it says of an Expire.
func (p *plain) expire(from int) int {
	was := len(*p)
	*p = slices.DeleteFunc(*p, func(s api.Seat) bool { return s.At < from })
	return was - len(*p)
}

// sorted is the sessions by rising numbers.
func (p plain) sorted() []api.Seat {
	l := slices.Clone(p)
	slices.SortFunc(l, func(a, b api.Seat) int { return a.Session - b.Session })
	return l
}

// P8.1 to P8.7: random calls, held against sessions in a plain row; the numbers that are kept of a session are 1, 2, 3 ..
func TestRandom(t *testing.T) {
	for seed := range 60 {
		r := rand.New(rand.NewSource(int64(seed)))
		s := session.New()
		var p plain
		next := map[int]int{}
		for step := range 400 {
			id, seq, at := r.Intn(12), r.Intn(6)-1, r.Intn(step+1)
			switch r.Intn(12) {
			case 0:
				e := p.open(id)
				want(t, s.Open(id), e)
				if e == api.OK {
					next[id] = 1
				}
			case 1:
				if r.Intn(4) == 0 {
					if n, gone := s.Expire(at/2), p.expire(at/2); n != gone {
						t.Fatal(n, gone)
					}
				}
			case 2:
				s = again(t, s, r)
			default:
				if r.Intn(2) == 0 {
					seq = next[id]
				}
				given := api.Reply{Gone: r.Intn(9) - 1}
				e := p.keep(id, seq, at, given)
				want(t, s.Keep(id, seq, at, given), e)
				if e == api.OK {
					if seq != next[id] {
						t.Fatal(seq, "kept, not", next[id])
					}
					next[id]++
				}
			}
			rep, done, e := p.ask(id, seq)
			told(t, s, id, seq, rep, done, e)
			holds(t, s, p.sorted()...)
		}
	}
}

// again is a table in another way: a clone, or loaded.
func again(t *testing.T, s *session.Table, r *rand.Rand) *session.Table {
	t.Helper()
	if r.Intn(2) == 0 {
		return s.Clone()
	}
	l, e := session.Load(s.Image())
	want(t, e, api.OK)
	return l
}
