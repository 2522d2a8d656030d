package net_test

import (
	"math"
	"math/rand"
	"slices"
	"testing"

	"spandrel/api"
	"spandrel/net"
	"spandrel/raft"
)

// sent is a bag with messages of those terms.
func sent(t *testing.T, terms ...int) *net.Net {
	t.Helper()
	n := net.New()
	for _, term := range terms {
		if got := n.Send(vote(term)); got != 1 {
			t.Fatal(got)
		}
	}
	return n
}

// has fails unless a bag has just the messages of those numbers.
func has(t *testing.T, n *net.Net, ids ...int) {
	t.Helper()
	if l := n.List(); !slices.Equal(l, ids) {
		t.Fatal(l, "not", ids)
	}
}

// peeks and takes fail unless a message is that one.
func peeks(t *testing.T, n *net.Net, id int, right api.Msg) {
	t.Helper()
	m, e := n.Peek(id)
	if e != api.OK {
		t.Fatal(id, e)
	}
	is(t, m, right)
}

func takes(t *testing.T, n *net.Net, id int, right api.Msg) {
	t.Helper()
	m, e := n.Take(id)
	if e != api.OK {
		t.Fatal(id, e)
	}
	is(t, m, right)
}

// gone fails unless all calls of a bag refuse a number for that reason, and leave what it has.
func gone(t *testing.T, n *net.Net, id int, right api.Errno) {
	t.Helper()
	was := n.List()
	m, e := n.Peek(id)
	is(t, m, api.Msg{})
	x, f := n.Take(id)
	is(t, x, api.Msg{})
	if l := [4]api.Errno{e, f, n.Lose(id), n.Double(id)}; l != [4]api.Errno{right, right, right, right} {
		t.Fatal(id, l)
	}
	has(t, n, was...)
}

// right fails unless there is no error.
func right(t *testing.T, l ...api.Errno) {
	t.Helper()
	for i, e := range l {
		if e != api.OK {
			t.Fatal(i, e)
		}
	}
}

// The chapter's example.
func TestExample(t *testing.T) {
	n := net.New()
	if got := n.Send(vote(1), vote(2)); got != 2 {
		t.Error(got)
	}
	has(t, n, 1, 2)
	right(t, n.Double(1))
	has(t, n, 1, 2, 3)
	takes(t, n, 1, vote(1))
	has(t, n, 2, 3)
	gone(t, n, 1, api.ErrLink)
	right(t, n.Lose(2))
	has(t, n, 3)
	peeks(t, n, 3, vote(1))
}

// P13.2: a new bag has nothing; numbers go on, whatever was taken away.
func TestNumbers(t *testing.T) {
	n := net.New()
	has(t, n)
	for _, id := range []int{0, 1, -1, 2, math.MinInt, math.MaxInt} {
		gone(t, n, id, api.ErrLink)
	}
	if n.Send() != 0 || n.Send([]api.Msg{}...) != 0 || n.Send(vote(7)) != 1 {
		t.Error(n.List())
	}
	takes(t, n, 1, vote(7))
	has(t, n)
	if n.Send(vote(8), vote(9), vote(8)) != 3 {
		t.Error(n.List())
	}
	has(t, n, 2, 3, 4)
	right(t, n.Lose(4), n.Double(2), n.Lose(2))
	has(t, n, 3, 5)
	peeks(t, n, 5, vote(8))
	if n.Send(vote(1)) != 1 {
		t.Error(n.List())
	}
	has(t, n, 3, 5, 6)
	for _, id := range []int{0, 1, 2, 4, 7, -3, math.MinInt, math.MaxInt} {
		gone(t, n, id, api.ErrLink)
	}
}

// P13.2, P13.5: each message that may be is what was sent; what may not be has no number.
func TestSend(t *testing.T) {
	n := net.New()
	all := some()
	if got := n.Send(all...); got != len(all) {
		t.Error(got)
	}
	for i, m := range all {
		for range 2 {
			peeks(t, n, i+1, m)
		}
	}
	for i, m := range slices.Backward(all) {
		takes(t, n, i+1, m)
		gone(t, n, i+1, api.ErrLink)
	}
	n = net.New()
	if got := n.Send(bad()...); got != 0 {
		t.Error(got)
	}
	has(t, n)
	for i, m := range bad() {
		if got := n.Send(m, vote(5), m, m, vote(6), m); got != 2 {
			t.Error(i, got)
		}
		has(t, n, 2*i+1, 2*i+2)
		takes(t, n, 2*i+1, vote(5))
		takes(t, n, 2*i+2, vote(6))
	}
}

// P13.2, P13.3: MaxBag messages are in a bag, and no more; Double finds what is not there ahead of that.
func TestFull(t *testing.T) {
	n := net.New()
	l := slices.Repeat([]api.Msg{vote(1), {}}, api.MaxBag-2)
	if got := n.Send(l...); got != api.MaxBag-2 {
		t.Fatal(got)
	}
	right(t, n.Double(3))
	if got := n.Send(vote(2), api.Msg{}, vote(3), vote(4)); got != 1 {
		t.Fatal(got)
	}
	was := n.List()
	if len(was) != api.MaxBag || was[api.MaxBag-1] != api.MaxBag {
		t.Fatal(was)
	}
	if n.Send(vote(3)) != 0 || n.Send(l...) != 0 || n.Double(1) != api.ErrFull || n.Double(256) != api.ErrFull {
		t.Error("there is no room")
	}
	has(t, n, was...)
	for _, id := range []int{0, 257, 258, -1} {
		gone(t, n, id, api.ErrLink)
	}
	peeks(t, n, 256, vote(2))
	right(t, n.Lose(256))
	if n.Send(vote(5), vote(6)) != 1 {
		t.Error("there is room for one")
	}
	takes(t, n, 1, vote(1))
	right(t, n.Double(257))
	peeks(t, n, 258, vote(5))
	has(t, n, append(slices.Clone(was[1:255]), 257, 258)...)
}

// P13.3: a message that is there twice goes once.
func TestDouble(t *testing.T) {
	for _, m := range some() {
		n := net.New()
		n.Send(m)
		right(t, n.Double(1), n.Double(2), n.Double(1))
		has(t, n, 1, 2, 3, 4)
		right(t, n.Lose(1))
		for _, id := range []int{3, 2, 4} {
			peeks(t, n, id, m)
			takes(t, n, id, m)
		}
		has(t, n)
	}
}

// P13.3; DOC.md, Objects: bags that New did not make.
func TestNoBag(t *testing.T) {
	for _, n := range []*net.Net{nil, {}} {
		for range 2 {
			if n.Send(vote(1), vote(2)) != 0 || n.Send() != 0 || n.List() != nil {
				t.Error("it has something")
			}
			for _, id := range []int{0, 1, 2, -1, math.MaxInt} {
				gone(t, n, id, api.ErrNil)
			}
		}
	}
}

// DOC.md, Memory: what is handed in is neither changed nor kept, and answers are new.
func TestBagMemory(t *testing.T) {
	for i, x := range some() {
		n := net.New()
		l := []api.Msg{roomy(x), roomy(x), roomy(vote(1)), roomy(vote(2))}
		was := whole(l[0])
		n.Send(l[:3]...)
		if whole(l[0]) != was || l[3].Term != 2 {
			t.Fatal(i, "has changed")
		}
		for _, m := range l {
			spoil(m)
		}
		clear(l)
		right(t, n.Double(1), n.Double(2))
		for range 2 {
			for _, id := range []int{1, 2, 4, 5} {
				m, _ := n.Peek(id)
				is(t, m, x)
				spoil(m)
			}
			ids := n.List()
			clear(ids[:cap(ids)])
		}
		for _, id := range []int{1, 2, 4, 5} {
			m, _ := n.Take(id)
			is(t, m, x)
			spoil(m)
		}
	}
}

// DOC.md, Objects: two bags know nothing of one another.
func TestBagsApart(t *testing.T) {
	a, b := sent(t, 1, 2), sent(t, 3)
	right(t, a.Lose(1), b.Double(1))
	has(t, a, 2)
	has(t, b, 1, 2)
	peeks(t, a, 2, vote(2))
	peeks(t, b, 2, vote(3))
}

// parcel is a message that is in a bag, and its number.
type parcel struct {
	id int
	m  api.Msg
}

// plain is a bag as the chapter tells it.
type plain struct {
	last int
	l    []parcel
}

// put puts a message in, if there is room.
func (p *plain) put(m api.Msg) bool {
	if len(p.l) >= 256 {
		return false
	}
	p.last++
	p.l = append(p.l, parcel{p.last, m})
	return true
}

// ids is the numbers of all.
func (p *plain) ids() []int {
	var l []int
	for _, x := range p.l {
		l = append(l, x.id)
	}
	return l
}

// step does one thing of a bag, and fails unless it answers what the chapter says.
func (p *plain) step(t *testing.T, n *net.Net, r *rand.Rand) {
	t.Helper()
	if r.Intn(10) < 4 {
		p.send(t, n, r)
		return
	}
	// The number of one that is there, mostly.
	id := r.Intn(p.last + 2)
	if len(p.l) > 0 && r.Intn(4) > 0 {
		id = p.l[r.Intn(len(p.l))].id
	}
	at := slices.IndexFunc(p.l, func(x parcel) bool { return x.id == id })
	if at < 0 {
		gone(t, n, id, api.ErrLink)
		return
	}
	m := p.l[at].m
	switch r.Intn(5) {
	case 0:
		peeks(t, n, id, m)
	case 1:
		takes(t, n, id, m)
		p.l = slices.Delete(p.l, at, at+1)
	case 2:
		right(t, n.Lose(id))
		p.l = slices.Delete(p.l, at, at+1)
	default:
		if e := n.Double(id); p.put(m) != (e == api.OK) || e != api.OK && e != api.ErrFull {
			t.Fatal(e)
		}
	}
}

// send sends some messages.
func (p *plain) send(t *testing.T, n *net.Net, r *rand.Rand) {
	t.Helper()
	var l []api.Msg
	count := 0
	for range r.Intn(6) {
		m := drawn(r)
		l = append(l, m)
		if raft.Check(m) == api.OK && p.put(m) {
			count++
		}
	}
	if got := n.Send(l...); got != count {
		t.Fatal(got, "not", count)
	}
}

// P13.2, P13.3, P13.5: random calls, held against a plain list.
func TestRandomCalls(t *testing.T) {
	full := 0
	for seed := range int64(20) {
		r := rand.New(rand.NewSource(seed))
		n, p := net.New(), &plain{}
		for range 1000 {
			p.step(t, n, r)
			has(t, n, p.ids()...)
			if len(p.l) == 256 {
				full++
			}
		}
		for _, x := range p.l {
			takes(t, n, x.id, x.m)
		}
		has(t, n)
	}
	if full == 0 {
		t.Error("no bag was full")
	}
}
