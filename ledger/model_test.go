package ledger_test

import (
	"math/rand"
	"slices"
	"testing"

	"spandrel/api"
	"spandrel/ledger"
)

// plain is a ledger in a plain row, gone through from its beginning for each answer.
type plain struct {
	index, term int
	rows        []api.Entry
}

// termOf is what chapter 11 says of a Term.
func (p plain) termOf(index int) (int, bool) {
	for _, e := range p.rows {
		if e.Index == index {
			return e.Term, true
		}
	}
	if index == p.index {
		return p.term, true
	}
	return 0, false
}

// last is what it says of Last.
func (p plain) last() (int, int) {
	index, term := p.index, p.term
	for _, e := range p.rows {
		index, term = e.Index, e.Term
	}
	return index, term
}

// goOn is which entries go on.
func goOn(index, term int, l []api.Entry) bool {
	for i, e := range l {
		if e.Index != index+1+i || e.Index > most || e.Term < 1 || e.Term > most || len(e.Data) > 4096 {
			return false
		}
		if i == 0 && e.Term < term || i > 0 && e.Term < l[i-1].Term {
			return false
		}
	}
	return true
}

// add is what it says of an Add.
func (p *plain) add(l []api.Entry) api.Errno {
	index, term := p.last()
	if !goOn(index, term, l) {
		return api.ErrLedger
	}
	p.rows = append(slices.Clone(p.rows), l...)
	return api.OK
}

// behind is the entries behind an index.
func (p plain) behind(index int) []api.Entry {
	var l []api.Entry
	for _, e := range p.rows {
		if e.Index > index {
			l = append(l, e)
		}
	}
	return l
}

// cut is what it says of a Cut.
func (p *plain) cut(from int) api.Errno {
	for i, e := range p.rows {
		if e.Index == from {
			p.rows = slices.Clone(p.rows[:i])
			return api.OK
		}
	}
	return api.ErrIndex
}

// rebase is what it says of a Rebase.
func (p *plain) rebase(index, term int) api.Errno {
	none := index == 0 && term == 0
	if !none && (index < 1 || term < 1 || index > most || term > most) || index < p.index {
		return api.ErrLedger
	}
	was, there := p.termOf(index)
	stay := p.behind(index)
	if !there || was != term {
		stay = nil
	}
	*p = plain{index: index, term: term, rows: stay}
	return api.OK
}

// merge is what it says of a Merge, line by line.
func (p plain) merge(index, term int, more []api.Entry) (int, []api.Entry, bool) {
	last, _ := p.last()
	if !goOn(index, term, more) || index > last {
		return 0, nil, false
	}
	if was, _ := p.termOf(index); index >= p.index && was != term {
		return 0, nil, false
	}
	for i, e := range more {
		was, there := p.termOf(e.Index)
		if e.Index <= p.index || there && was == e.Term {
			continue
		}
		if e.Index == p.index+1 && e.Term < p.term {
			return 0, nil, false
		}
		if there {
			return e.Index, more[i:], true
		}
		return 0, more[i:], true
	}
	return 0, nil, true
}

// hint is what it says of a Hint: the least index of which all entries from it on have the same term.
func (p plain) hint(index int) int {
	last, _ := p.last()
	if index > last {
		return last + 1
	}
	to := max(index, p.index+1)
	term, _ := p.termOf(to)
	for from := p.index + 1; from < to; from++ {
		alike := true
		for i := from; i <= to; i++ {
			was, _ := p.termOf(i)
			alike = alike && was == term
		}
		if alike {
			return from
		}
	}
	return to
}

// fresh is what it says of a Fresh.
func (p plain) fresh(index, term int) bool {
	i, n := p.last()
	return term > n || term == n && index >= i
}

// others is entries behind an index, that have at first the terms that are there and later ones of their own; now and then they do not go on.
func (p plain) others(r *rand.Rand, index, term int) []api.Entry {
	var l []api.Entry
	turn := r.Intn(8)
	for i := range r.Intn(8) {
		was, there := p.termOf(index + 1 + i)
		if there && i < turn {
			term = was
		} else {
			term = max(1, term+r.Intn(2))
		}
		l = append(l, entry(index+1+i, term))
	}
	if len(l) > 0 && r.Intn(8) == 0 {
		at := r.Intn(len(l))
		l[at] = []api.Entry{entry(l[at].Index+1, l[at].Term), entry(l[at].Index, l[at].Term-1), long(l[at].Index, l[at].Term, 4097)}[r.Intn(3)]
	}
	return l
}

// drawn is an index near the ledger's, and mostly the term that is there.
func (p plain) drawn(r *rand.Rand) (int, int) {
	last, _ := p.last()
	index := p.index - 3 + r.Intn(last-p.index+6)
	term, there := p.termOf(index)
	if !there || r.Intn(6) == 0 {
		term = r.Intn(6)
	}
	return index, term
}

// merged fails unless a Merge answers what the chapter says, and taken in leaves all that was brought (P11.6).
func merged(t *testing.T, l *ledger.Ledger, p plain, index, term int, more []api.Entry) {
	t.Helper()
	from, told, ok := p.merge(index, term, more)
	brings(t, l, index, term, more, from, told, ok)
	if !ok {
		return
	}
	c := l.Clone()
	if from != 0 {
		want(t, c.Cut(from), api.OK)
	}
	want(t, c.Add(told...), api.OK)
	for _, e := range more {
		if e.Index > p.index {
			termIs(t, c, e.Index, e.Term, true)
		}
	}
	if len(told) > 0 {
		if all := c.From(told[0].Index, len(told)+1); !same(all, told) {
			t.Fatal(all, "not", told)
		}
	}
	brings(t, c, index, term, more, 0, nil, true)
}

// P11.1 to P11.7: random calls, held against a ledger in a plain row.
func TestRandom(t *testing.T) {
	for seed := range 400 {
		r := rand.New(rand.NewSource(int64(seed)))
		l, _ := ledger.New(0, 0)
		var p plain
		for range 40 {
			index, term := p.drawn(r)
			last, lastTerm := p.last()
			switch r.Intn(8) {
			case 0:
				want(t, l.Cut(index), p.cut(index))
			case 1:
				if r.Intn(4) == 0 {
					want(t, l.Rebase(index, term), p.rebase(index, term))
				}
			case 2:
				l = l.Clone()
			case 3:
				rows := p.others(r, index, term)
				from, told, ok := l.Merge(index, term, rows...)
				merged(t, l, p, index, term, rows)
				if ok && from > 0 {
					want(t, l.Cut(from), p.cut(from))
				}
				want(t, l.Add(told...), p.add(told))
			default:
				rows := p.others(r, last, lastTerm)
				want(t, l.Add(rows...), p.add(rows))
			}
			holds(t, l, p.index, p.term, p.rows...)
			asked(t, l, p, r)
		}
	}
}

// asked fails unless a ledger answers what the chapter says.
func asked(t *testing.T, l *ledger.Ledger, p plain, r *rand.Rand) {
	t.Helper()
	index, term := p.drawn(r)
	merged(t, l, p, index, term, p.others(r, index, term))
	if l.Hint(index) != p.hint(index) {
		t.Fatal("hint", index, l.Hint(index), p.hint(index))
	}
	if l.Fresh(index, term) != p.fresh(index, term) {
		t.Fatal("fresh", index, term)
	}
	was, there := p.termOf(index)
	termIs(t, l, index, was, there)
	n := r.Intn(6)
	rows := p.behind(index - 1)
	if !there || index == p.index {
		rows = nil
	}
	if told := l.From(index, n); !same(told, rows[:min(n, len(rows))]) {
		t.Fatal(index, n, told)
	}
}
