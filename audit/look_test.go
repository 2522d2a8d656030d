package audit_test

import (
	"fmt"
	"math"
	"math/rand"
	"slices"
	"testing"

	"spandrel/api"
	"spandrel/audit"
)

// finds fails unless just this is found.
func finds(t *testing.T, name string, l []api.View, want ...api.Finding) {
	t.Helper()
	if got := audit.Look(l...); !slices.Equal(got, want) {
		t.Errorf("%s: %v, not %v", name, got, want)
	}
}

// at is a view behind a base, of entries of these terms, of which so many are committed.
func at(base, committed int, terms ...int) api.View {
	v := api.View{Index: base, Commit: base + committed}
	for i, term := range terms {
		v.Entries = append(v.Entries, api.Entry{Index: base + i + 1, Term: term, Data: []byte{1}})
	}
	return v
}

// leads is a view of who leads in a term.
func leads(term int, v api.View) api.View {
	v.Role, v.Hard.Term = api.Leader, term
	return v
}

// turned is a view of which one entry is another one.
func turned(v api.View, i int, x api.Entry) api.View {
	v.Entries = slices.Clone(v.Entries)
	v.Entries[i] = x
	return v
}

// P16.5: nothing is found of none, and of those that have the same.
func TestLookNothing(t *testing.T) {
	if got := audit.Look(); got != nil {
		t.Error(got)
	}
	if got := audit.Look([]api.View{}...); got != nil {
		t.Error(got)
	}
	v := at(0, 2, 1, 1, 2, 3)
	finds(t, "the same", []api.View{v, v, at(0, 0), at(2, 1, 2, 3), leads(3, v), leads(2, v), {}})
}

// P16.5: chapter 16's example.
func TestLookExample(t *testing.T) {
	finds(t, "two that lead", []api.View{leads(3, api.View{}), leads(3, api.View{ID: 1})}, api.Finding{Kind: api.FLeader, A: 0, B: 1})
}

// P16.5: what is committed is not below the base, and is there, up to the greatest index.
func TestLookCommit(t *testing.T) {
	with := func(index, commit, entries int) api.View {
		return api.View{Index: index, Commit: commit, Entries: make([]api.Entry, entries)}
	}
	for _, x := range []struct {
		v   api.View
		may bool
	}{
		{with(0, 0, 0), true}, {with(0, 1, 0), false}, {with(0, -1, 0), false}, {with(0, -1, 5), false},
		{with(0, 0, 3), true}, {with(0, 3, 3), true}, {with(0, 4, 3), false},
		{with(5, 5, 0), true}, {with(5, 4, 0), false}, {with(5, 4, 9), false}, {with(5, 6, 0), false}, {with(5, 6, 1), true}, {with(5, 0, 3), false}, {with(5, 7, 1), false},
		{with(-1, 0, 0), false}, {with(-1, -1, 0), false}, {with(-1, 0, 1), false}, {with(-1, 0, 4), false},
		{with(most, most, 0), true}, {with(most, most, 1), true}, {with(most, most+1, 1), false}, {with(most, most-1, 1), false}, {with(most-1, most, 1), true}, {with(most-1, most, 0), false}, {with(most-1, most+1, 2), false},
		{with(most+1, most+1, 0), false}, {with(most+1, most, 0), false}, {with(most+1, most+1, 3), false},
		{with(math.MaxInt, math.MaxInt, 0), false}, {with(math.MaxInt, math.MinInt, 2), false}, {with(math.MaxInt, 0, 2), false}, {with(0, math.MaxInt, 2), false}, {with(0, math.MinInt, 2), false}, {with(math.MinInt, math.MinInt, 2), false}, {with(math.MinInt, 0, 2), false},
	} {
		var want []api.Finding
		if !x.may {
			want = []api.Finding{{Kind: api.FCommit}}
		}
		finds(t, fmt.Sprint(x.v.Index, x.v.Commit, len(x.v.Entries)), []api.View{x.v}, want...)
	}
}

// P16.5: a view that is found for itself is held against no other one.
func TestLookCommitAlone(t *testing.T) {
	good, bad := leads(1, at(0, 2, 1, 1)), leads(1, turned(at(0, 3, 1, 1), 0, api.Entry{Index: 1, Term: 1}))
	finds(t, "one behind", []api.View{good, bad}, api.Finding{Kind: api.FCommit, A: 1, B: 1})
	finds(t, "one ahead", []api.View{bad, good}, api.Finding{Kind: api.FCommit})
	finds(t, "twice", []api.View{bad, bad}, api.Finding{Kind: api.FCommit}, api.Finding{Kind: api.FCommit, A: 1, B: 1})
	finds(t, "one between", []api.View{good, bad, good}, api.Finding{Kind: api.FCommit, A: 1, B: 1}, api.Finding{Kind: api.FLeader, A: 0, B: 2})
}

// P16.5: two that lead in one term: the term of their hard states.
func TestLookLeader(t *testing.T) {
	with := func(role, term int) api.View { return api.View{Role: role, Hard: api.Hard{Term: term}} }
	for _, x := range []struct {
		a, b api.View
		two  bool
	}{
		{with(2, 1), with(2, 1), true}, {with(2, 1), with(2, 2), false}, {with(2, 1), with(1, 1), false}, {with(0, 1), with(2, 1), false}, {with(1, 1), with(1, 1), false}, {with(0, 1), with(0, 1), false}, {with(3, 1), with(3, 1), false}, {with(3, 1), with(2, 1), false},
		{with(2, 0), with(2, 0), true}, {with(2, -4), with(2, -4), true}, {with(2, math.MaxInt), with(2, math.MaxInt), true}, {with(2, math.MaxInt), with(2, math.MinInt), false},
	} {
		var want []api.Finding
		if x.two {
			want = []api.Finding{{Kind: api.FLeader, A: 0, B: 1}}
		}
		for _, id := range []int{0, 1, -1} {
			// Who it is, whom it follows, for whom it voted, who votes, and the term of its base are not asked.
			x.b.ID, x.b.Leader, x.b.Hard.Vote, x.b.Voters, x.b.Term = id, 3, 5, []int{id}, 9
			finds(t, fmt.Sprintf("%+v %+v", x.a, x.b), []api.View{x.a, x.b}, want...)
			finds(t, fmt.Sprintf("%+v %+v", x.b, x.a), []api.View{x.b, x.a}, want...)
		}
	}
}

// P16.5: entries of one index and term, that are not the same; and entries that both have committed.
func TestLookEntries(t *testing.T) {
	e, c := api.FEntry, api.FChosen
	v := at(0, 3, 1, 1, 2, 2, 3) // three of five are committed
	for name, x := range map[string]struct {
		other api.View
		want  []int
	}{
		"the same":                             {v, nil},
		"fewer":                                {at(0, 1, 1, 1), nil},
		"more":                                 {at(0, 5, 1, 1, 2, 2, 3, 3), nil},
		"none":                                 {at(0, 0), nil},
		"a later base":                         {at(3, 0, 2, 3, 3), nil},
		"a base at the end":                    {at(5, 2, 9, 9), nil},
		"a base behind the end":                {at(6, 1, 9, 9), nil},
		"a base far behind":                    {at(most, 0, 9, 9), nil},
		"another term that is not committed":   {turned(v, 3, api.Entry{Index: 4, Term: 3}), nil},
		"other data that is not committed":     {turned(v, 3, api.Entry{Index: 4, Term: 2}), []int{e}},
		"another term, committed":              {turned(v, 2, api.Entry{Index: 3, Term: 3}), []int{c}},
		"other data, committed":                {turned(v, 2, api.Entry{Index: 3, Term: 2, Data: []byte{2}}), []int{e, c}},
		"longer data, committed":               {turned(v, 0, api.Entry{Index: 1, Term: 1, Data: []byte{1, 1}}), []int{e, c}},
		"another index, committed":             {turned(v, 1, api.Entry{Index: 3, Term: 1, Data: []byte{1}}), []int{e, c}},
		"another index that is not committed":  {turned(v, 4, api.Entry{Index: 4, Term: 3, Data: []byte{1}}), []int{e}},
		"another one, which one has committed": {turned(at(0, 5, 1, 1, 2, 2, 3), 3, api.Entry{Index: 4, Term: 4}), nil},
		"one that the other has not committed": {turned(at(0, 2, 1, 1, 2, 2, 3), 2, api.Entry{Index: 3, Term: 4}), nil},
		"the last one that both have":          {turned(at(0, 2, 1, 1, 2, 2, 3), 1, api.Entry{Index: 2, Term: 4}), []int{c}},
		"a later base, other data":             {turned(at(2, 0, 2, 2, 3), 0, api.Entry{Index: 3, Term: 2}), []int{e}},
		"a later base, committed":              {turned(at(2, 1, 2, 2, 3), 0, api.Entry{Index: 3, Term: 2}), []int{e, c}},
		"a later base, another term":           {at(2, 1, 4), []int{c}},
		"shifted":                              {at(1, 0, 1, 1, 2), nil},
		"shifted, committed":                   {at(1, 2, 1, 1, 2), []int{c}},
		"shifted by their indices":             {api.View{Entries: v.Entries[1:]}, []int{e}},
		"one twice":                            {turned(turned(v, 0, api.Entry{}), 1, api.Entry{}), []int{c}},
	} {
		var want []api.Finding
		for _, kind := range x.want {
			want = append(want, api.Finding{Kind: kind, A: 0, B: 1})
		}
		finds(t, name, []api.View{v, x.other}, want...)
		finds(t, name+" the other way round", []api.View{x.other, v}, want...)
	}
	empty, none := v, v
	empty, none = turned(empty, 0, api.Entry{Index: 1, Term: 1, Data: []byte{}}), turned(none, 0, api.Entry{Index: 1, Term: 1})
	finds(t, "empty data are none", []api.View{empty, none})
}

// P16.5: entries are told by their places behind the base, also where these are beyond all indices.
func TestLookFar(t *testing.T) {
	a, b := at(most, 0, 1, 1), at(most, 0, 1, 1)
	finds(t, "the same", []api.View{a, b})
	finds(t, "not the same", []api.View{a, turned(b, 1, api.Entry{})})
	finds(t, "of one term", []api.View{a, turned(b, 1, api.Entry{Term: 1})}, api.Finding{Kind: api.FEntry, A: 0, B: 1})
	for _, term := range []int{math.MinInt, -1, 0, most + 1, math.MaxInt} {
		x, y := api.View{Entries: []api.Entry{{Term: term}}}, api.View{Entries: []api.Entry{{Index: math.MaxInt, Term: term}}}
		finds(t, fmt.Sprint("term ", term), []api.View{x, y}, api.Finding{Kind: api.FEntry, A: 0, B: 1})
	}
}

// P16.5: findings stand by the views' order: of each view those with the ones ahead of it, in their order, kind by kind.
func TestLookOrder(t *testing.T) {
	v := leads(3, at(0, 2, 1, 1, 2))
	other := turned(turned(v, 0, api.Entry{Index: 1, Term: 1}), 2, api.Entry{Index: 3, Term: 2})
	bad := leads(3, at(0, 9, 1))
	finds(t, "all", []api.View{v, other, bad, other, v, bad, at(0, 0)},
		api.Finding{Kind: api.FLeader, A: 0, B: 1},
		api.Finding{Kind: api.FEntry, A: 0, B: 1},
		api.Finding{Kind: api.FChosen, A: 0, B: 1},
		api.Finding{Kind: api.FCommit, A: 2, B: 2},
		api.Finding{Kind: api.FLeader, A: 0, B: 3},
		api.Finding{Kind: api.FEntry, A: 0, B: 3},
		api.Finding{Kind: api.FChosen, A: 0, B: 3},
		api.Finding{Kind: api.FLeader, A: 1, B: 3},
		api.Finding{Kind: api.FLeader, A: 0, B: 4},
		api.Finding{Kind: api.FLeader, A: 1, B: 4},
		api.Finding{Kind: api.FEntry, A: 1, B: 4},
		api.Finding{Kind: api.FChosen, A: 1, B: 4},
		api.Finding{Kind: api.FLeader, A: 3, B: 4},
		api.Finding{Kind: api.FEntry, A: 3, B: 4},
		api.Finding{Kind: api.FChosen, A: 3, B: 4},
		api.Finding{Kind: api.FCommit, A: 5, B: 5},
	)
}

// viewed is a view drawn at random, mostly of what all have.
func viewed(r *rand.Rand) api.View {
	v := api.View{ID: r.Intn(7), Role: r.Intn(3), Hard: api.Hard{Term: r.Intn(3)}, Index: r.Intn(5)}
	for i := range r.Intn(6) {
		x := api.Entry{Index: v.Index + 1 + i, Term: 1 + (v.Index+i)/3, Data: []byte{1}}
		if r.Intn(14) == 0 {
			x.Term++
		}
		if r.Intn(14) == 0 {
			x.Data = nil
		}
		if r.Intn(30) == 0 {
			x.Index++
		}
		v.Entries = append(v.Entries, x)
	}
	v.Commit = v.Index + r.Intn(len(v.Entries)+1)
	if r.Intn(8) == 0 {
		v.Commit += r.Intn(7) - 3
	}
	return v
}

// P16.5, held against its words; P16.7: of one view twice neither FEntry nor FChosen; what is found of some is found when others stand behind them.
func TestLookRandom(t *testing.T) {
	count := map[int]int{}
	for seed := range int64(3000) {
		r := rand.New(rand.NewSource(seed))
		var l []api.View
		for range r.Intn(7) {
			l = append(l, viewed(r))
		}
		all := audit.Look(l...)
		if want := plainLook(l); !slices.Equal(all, want) {
			t.Fatalf("%d: %v, not %v: %+v", seed, all, want, l)
		}
		for n := range l {
			for _, f := range audit.Look(l[:n]...) {
				if !slices.Contains(all, f) {
					t.Fatal(seed, n, f)
				}
			}
			for _, f := range audit.Look(l[n], l[n]) {
				if f.Kind == api.FEntry || f.Kind == api.FChosen {
					t.Fatal(seed, n, f)
				}
			}
		}
		for _, f := range all {
			count[f.Kind]++
		}
		if all == nil {
			count[0]++
		}
	}
	t.Log(count)
	for kind := range 5 {
		if count[kind] < 300 {
			t.Error(kind, count[kind])
		}
	}
}

// DOC.md, Memory: what is handed in stays as it is, the room behind it too, and answers are new.
func TestLookMemory(t *testing.T) {
	r := rand.New(rand.NewSource(5))
	var l []api.View
	for range 12 {
		l = append(l, viewed(r))
	}
	was := fmt.Sprint(l)
	mine := spare(api.View{ID: 77}, l...)
	for i := range mine {
		mine[i].Entries = spare(api.Entry{Index: 77}, mine[i].Entries...)
	}
	got := audit.Look(mine...)
	want := slices.Clone(got)
	clear(got[:cap(got)])
	if again := audit.Look(mine...); len(want) < 5 || !slices.Equal(again, want) {
		t.Error(again, want)
	}
	if fmt.Sprint(mine) != was || mine[:len(mine)+1][len(mine)].ID != 77 {
		t.Error("something that was handed in has changed")
	}
	for _, v := range mine {
		if n := len(v.Entries); v.Entries[:n+1][n].Index != 77 {
			t.Error("something behind a list's end has changed")
		}
	}
}
