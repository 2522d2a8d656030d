package audit_test

import (
	"bytes"
	"cmp"
	"fmt"
	"math"
	"math/rand"
	"reflect"
	"slices"
	"testing"

	"spandrel/api"
	"spandrel/audit"
	"spandrel/machine"
)

// P16.3: an ingest took effect first at the first entry of its session and number, all else at its index.
func TestFirst(t *testing.T) {
	log, _ := story()
	for name, x := range map[string]struct {
		c    api.Command
		want int // 0: its index
	}{
		"tried again":             {ingest(2, 1, span(1)), 3},
		"of other spans":          {ingest(2, 1, span(7), span(8)), 3},
		"of no spans":             {ingest(2, 1), 3},
		"at a time":               {api.Command{Kind: api.CIngest, Session: 2, Seq: 1, At: -1, Voters: []int{9}}, 3},
		"another session":         {ingest(4, 1, span(1)), 5},
		"refused for a gap":       {ingest(4, 3), 7},
		"refused, for it ended":   {ingest(2, 2), 10},
		"a number that is not":    {ingest(4, 2), 0},
		"a session that is not":   {ingest(3, 1), 0},
		"no session":              {ingest(0, 1), 0},
		"nothing":                 {ingest(0, 0), 0},
		"below":                   {ingest(-2, -1), 0},
		"turned round":            {ingest(1, 2), 0},
		"an open":                 {opens(), 0},
		"an open of a session":    {api.Command{Kind: api.COpen, Session: 2, Seq: 1}, 0},
		"an expire of a session":  {api.Command{Kind: api.CExpire, Session: 2, Seq: 1, At: 4}, 0},
		"a retain of a session":   {api.Command{Kind: api.CRetain, Session: 2, Seq: 1}, 0},
		"a look of a session":     {api.Command{Session: 2, Seq: 1}, 0},
		"a kind that is none":     {api.Command{Kind: 7, Session: 2, Seq: 1}, 0},
		"a kind below all others": {api.Command{Kind: -2, Session: 2, Seq: 1}, 0},
	} {
		for _, index := range []int{0, 1, 3, 6, len(log), 99, -5, most, math.MaxInt, math.MinInt} {
			want := x.want
			if want == 0 {
				want = index
			}
			if got := audit.First(log, api.Call{C: x.c, Index: index}); got != want {
				t.Error(name, index, got)
			}
			if got := audit.First(nil, api.Call{C: x.c, Index: index}); got != index {
				t.Error(name, index, got, "in no log")
			}
		}
	}
}

// P16.3: a place is where an entry stands in the list, whatever its index, and whether it, or one ahead of it, may be done.
func TestFirstPlaces(t *testing.T) {
	log, _ := story()
	c := api.Call{C: ingest(2, 1, span(1)), Index: 50}
	for cut, want := range []int{3, 2, 1, 3, 2, 1, 50} {
		if got := audit.First(log[cut:], c); got != want {
			t.Error(cut, got)
		}
	}
	x := data(c.C)
	for _, e := range []api.Entry{{Data: x}, {Index: -1, Term: -1, Data: x}, {Index: math.MaxInt, Term: math.MaxInt, Data: x}} {
		if got := audit.First([]api.Entry{{Index: 5}, {Index: 5, Data: []byte{2, 2, 1}}, {Data: append(bytes.Clone(x), 0)}, e, e}, c); got != 4 {
			t.Error(e, got)
		}
	}
}

// P16.4: chapter 16's example.
func TestLinearExample(t *testing.T) {
	log := logOf(opens())
	c := api.Call{C: opens(), Began: 2, Ended: 3, Index: 1, Reply: api.Reply{Session: 1}}
	if got := audit.Linear([]int{0}, log, []api.Call{c}); got != -1 {
		t.Error(got)
	}
	c.Reply.Session = 2
	if got := audit.Linear([]int{0}, log, []api.Call{c}); got != 0 {
		t.Error(got)
	}
}

// P16.4: no calls, and calls that have not ended, whatever they say, are no fault.
func TestLinearNothing(t *testing.T) {
	log, replies := story()
	wrong := told(9, opens(), api.Reply{Gone: 3})
	for _, l := range [][]api.Call{nil, {}, {{}}, {during(5, 0, wrong)}, {during(-5, 0, wrong), during(5, 0, looked(99, 1))}} {
		for _, voters := range append(noVoters, three) {
			if got := audit.Linear(voters, log, l); got != -1 {
				t.Error(l, got)
			}
			if got := audit.Linear(voters, nil, l); got != -1 {
				t.Error(l, got, "in no log")
			}
		}
	}
	if got := audit.Linear(three, log, []api.Call{during(4, 0, wrong), during(1, 2, told(2, opens(), replies[1])), during(8, 9, wrong), during(8, 9, wrong)}); got != 2 {
		t.Error(got)
	}
}

// P16.4: a call doesn't end ahead of its beginning; it may where it begins. Whatever is not 0 is an end.
func TestLinearTimes(t *testing.T) {
	log, replies := story()
	for _, x := range []struct{ began, ended, want int }{
		{1, 1, -1}, {1, 2, -1}, {2, 1, 0}, {1, -1, 0}, {-1, -1, -1}, {-2, -1, -1}, {0, -1, 0}, {0, 1, -1}, {7, 0, -1},
		{math.MinInt, math.MaxInt, -1}, {math.MaxInt, math.MinInt, 0}, {math.MaxInt, math.MaxInt, -1}, {math.MinInt, math.MinInt, -1},
	} {
		for name, c := range map[string]api.Call{"open": told(2, opens(), replies[1]), "look": looked(3, 1, branches(span(1))...)} {
			if got := audit.Linear(three, log, []api.Call{during(x.began, x.ended, c)}); got != x.want {
				t.Error(name, x, got)
			}
		}
	}
}

// P16.4: a call that is not explained can't be.
func TestLinearUnexplained(t *testing.T) {
	log, replies := story()
	good := during(1, 1, looked(0, 1))
	for name, c := range map[string]api.Call{
		"another reply":    told(2, opens(), api.Reply{Session: 3}),
		"another entry":    told(3, opens(), replies[2]),
		"no entry":         told(0, opens(), api.Reply{}),
		"behind all":       told(len(log)+1, opens(), api.Reply{Session: len(log) + 1}),
		"another forest":   looked(3, 1, branches(span(2))...),
		"a look too early": looked(2, 1, branches(span(1))...),
		"a look below":     looked(-1, 1),
		"a look behind":    looked(len(log)+1, 1),
	} {
		c = during(1, 9, c)
		if got := audit.Linear(three, log, []api.Call{good, c, c, good}); got != 1 {
			t.Error(name, got)
		}
	}
	for _, voters := range noVoters {
		if got := audit.Linear(voters, log, []api.Call{good, during(1, 1, told(2, opens(), replies[1]))}); got != 1 {
			t.Error(voters, got)
		}
	}
}

// P16.4: what ended ahead of a call's beginning stands ahead of it: at a lower index, or, of a look, at the same.
func TestLinearOrder(t *testing.T) {
	log, replies := story()
	of := func(index int) api.Call {
		c, _ := machine.Get(log[index-1].Data)
		return told(index, c, replies[index-1])
	}
	look := func(index int) api.Call {
		m := []int{0, 0, 0, 1, 1, 2, 2, 2, 2, 2, 2, 0}
		return looked(index, 1, branches(span(1), span(2))[:m[index]]...)
	}
	for name, x := range map[string]struct {
		ahead, c api.Call
		may      bool
	}{
		"an entry behind":                     {of(4), of(5), true},
		"an entry ahead":                      {of(5), of(4), false},
		"an entry far ahead":                  {of(11), of(2), false},
		"the same entry":                      {of(4), of(4), false},
		"a look at the entry":                 {of(4), look(4), true},
		"a look behind the entry":             {of(4), look(6), true},
		"a look ahead of the entry":           {of(4), look(3), false},
		"a look at nothing":                   {of(2), look(0), false},
		"an entry at a look":                  {look(4), of(4), false},
		"an entry behind a look":              {look(4), of(5), true},
		"an entry ahead of a look":            {look(5), of(4), false},
		"a look at a look":                    {look(4), look(4), true},
		"a look behind a look":                {look(4), look(5), true},
		"a look ahead of a look":              {look(5), look(4), false},
		"an ingest behind":                    {of(2), of(3), true},
		"the same ingest tried again":         {of(3), of(6), false},
		"the ingest that was tried again":     {of(6), of(3), false},
		"tried again, behind another one":     {of(4), of(6), false},
		"tried again, behind a look":          {look(3), of(6), false},
		"tried again, behind an earlier look": {look(2), of(6), true},
		"tried again, behind an earlier one":  {of(2), of(6), true},
		"ahead of where it was told":          {of(6), of(5), false},
		"a look ahead of where it was told":   {of(6), look(5), false},
		"a look where it was told":            {of(6), look(6), true},
		"behind where it was told":            {of(6), of(8), true},
	} {
		want := 1
		if x.may {
			want = -1
		}
		if got := audit.Linear(three, log, []api.Call{during(1, 3, x.ahead), during(4, 9, x.c)}); got != want {
			t.Error(name, got)
		}
		if got := audit.Linear(three, log, []api.Call{during(4, 9, x.c), during(1, 3, x.ahead)}); got != min(want, 0) {
			t.Error(name, "the other way round:", got)
		}
		if got := audit.Linear(three, log, []api.Call{during(-9, -5, x.ahead), during(-4, -1, x.c)}); got != want {
			t.Error(name, "below 0:", got)
		}
		if got := audit.Linear(three, log, []api.Call{during(1, 4, x.ahead), during(4, 9, x.c)}); got != -1 {
			t.Error(name, "at the same time:", got)
		}
		if got := audit.Linear(three, log, []api.Call{during(1, 0, x.ahead), during(4, 9, x.c)}); got != -1 {
			t.Error(name, "that had not ended:", got)
		}
		if got := audit.Linear(three, log, []api.Call{during(1, 3, x.ahead), during(4, 0, x.c)}); got != -1 {
			t.Error(name, "that does not end:", got)
		}
	}
}

// P16.4: the latest of all that had ended is what counts, whichever of them it is, and another one that itself can't be.
func TestLinearAmongMany(t *testing.T) {
	log, replies := story()
	a, b, c := told(2, opens(), replies[1]), told(4, opens(), replies[3]), told(8, votes(0, 1, 2, 3), replies[7])
	late := during(20, 30, looked(5, 1, branches(span(1), span(2))...))
	for _, l := range [][]api.Call{
		{during(1, 9, c), during(1, 2, a), during(1, 3, b)},
		{during(1, 2, c), during(1, 9, a), during(1, 3, b)},
		{during(1, 2, a), during(1, 9, c), during(1, 2, b)},
		{during(1, 2, a), during(1, 19, b), during(1, 9, c)},
	} {
		if got := audit.Linear(three, log, append(l, late)); got != 3 {
			t.Error(l, got)
		}
		if got := audit.Linear(three, log, l); got != -1 {
			t.Error(l, got)
		}
	}
	strange := during(1, 5, told(math.MaxInt, opens(), api.Reply{}))
	if got := audit.Linear(three, log, []api.Call{late, strange}); got != 0 {
		t.Error(got)
	}
	if got := audit.Linear(three, log, []api.Call{strange, late}); got != 0 {
		t.Error(got)
	}
	backwards := during(9, 5, c)
	if got := audit.Linear(three, log, []api.Call{during(6, 30, a), backwards}); got != 0 {
		t.Error("what ended ahead of its own beginning had ended:", got)
	}
	if got := audit.Linear(three, log, []api.Call{during(5, 30, a), backwards}); got != 1 {
		t.Error(got)
	}
}

// history is calls that a log explains, in no order, in the time at which they took effect; now and then spoiled, or at another time.
func history(r *rand.Rand, log []api.Entry, n int) []api.Call {
	var l []api.Call
	for range n {
		c := toldBy(r, log)
		first, index := 10*plainFirst(log, c), 10*c.Index
		if c.C.Kind == api.CNone {
			first, index = first+5, index+5
		}
		switch r.Intn(16) {
		case 0:
			c.Began, c.Ended = r.Intn(8), r.Intn(8)
		case 1, 2:
			c = during(first+4-r.Intn(40), index-4+r.Intn(40), c)
		default:
			c = during(first-r.Intn(40), index+r.Intn(40), c)
		}
		if r.Intn(24) == 0 {
			spoil(r, &c, len(log))
		}
		l = append(l, c)
	}
	return l
}

// P16.3, P16.4, held against their words; P16.8: where there is no call that can't be, calls in the order of what they were told stand where they may.
func TestLinearRandom(t *testing.T) {
	count := map[int]int{}
	for seed := range int64(6000) {
		r := rand.New(rand.NewSource(seed))
		log := drawn(r, r.Intn(16))
		l := history(r, log, r.Intn(11))
		got := audit.Linear(three, log, l)
		if want := plainLinear(three, log, l); got != want {
			t.Fatalf("%d: %d, not %d: %+v", seed, got, want, l)
		}
		for _, c := range l {
			if got := audit.First(log, c); got != plainFirst(log, c) {
				t.Fatal(seed, got)
			}
		}
		count[got]++
		if got < 0 {
			count[100] += ordered(t, log, l)
		}
	}
	t.Log(count)
	if count[-1] < 1500 || count[0] < 300 || count[3] < 100 || count[100] < 10000 {
		t.Error("too little of something:", count)
	}
}

// ordered fails unless the calls that ended stand in the order of what they were told as P16.8 says: how many pairs had one behind the other.
func ordered(t *testing.T, log []api.Entry, l []api.Call) (pairs int) {
	t.Helper()
	var order []api.Call
	for _, c := range l {
		if c.Ended != 0 {
			order = append(order, c)
		}
	}
	entry := func(c api.Call) int { return min(1, c.C.Kind) }
	slices.SortFunc(order, func(a, b api.Call) int {
		return cmp.Or(cmp.Compare(a.Index, b.Index), cmp.Compare(entry(b), entry(a)), cmp.Compare(a.Ended, b.Ended))
	})
	for i, c := range order {
		if !plainExplained(three, log, c) {
			t.Fatalf("%+v", c)
		}
		for _, o := range order[:i] {
			if c.Ended < o.Began {
				t.Fatalf("%+v stands ahead of %+v", o, c)
			}
			if o.Ended < c.Began {
				pairs++
			}
		}
	}
	return pairs
}

// P16.4: a long log and many calls are no matter of hours.
func TestLinearLong(t *testing.T) {
	var cs []api.Command
	for i := range 4000 {
		cs = append(cs, opens(), expire(i))
	}
	log := logOf(cs...)
	var l []api.Call
	for i, r := range audit.Replay(three, log...) {
		c, _ := machine.Get(log[i].Data)
		l = append(l, during(4*i+1, 4*i+2, told(i+1, c, r)), during(4*i+3, 4*i+4, looked(i+1, 1)))
	}
	if got := audit.Linear(three, log, l); got != -1 {
		t.Error(got)
	}
	slices.Reverse(l)
	if got := audit.Linear(three, log, l); got != -1 {
		t.Error(got)
	}
	l[9000].Index--
	if got := audit.Linear(three, log, l); got != 9000 {
		t.Error(got)
	}
}

// DOC.md, Memory: what is handed in stays as it is, the room behind it too.
func TestLinearMemory(t *testing.T) {
	log, replies := story()
	l := []api.Call{during(8, 9, looked(3, 1, branches(span(1))...)), during(1, 2, told(2, opens(), replies[1])), during(3, 4, told(3, ingest(2, 1, span(1)), replies[2]))}
	mine, calls, voters := spare(api.Entry{Index: 77}, log...), spare(api.Call{Index: 77}, l...), spare(77, three...)
	calls[0].Forest = spare(api.Branch{Depth: 77}, calls[0].Forest...)
	calls[2].C.Spans = spare(span(77), calls[2].C.Spans...)
	for range 2 {
		if got := audit.Linear(voters, mine, calls); got != -1 {
			t.Error(got)
		}
		if got := audit.First(mine, calls[2]); got != 3 {
			t.Error(got)
		}
		if !audit.Explained(voters, mine, calls[0]) || !audit.Explained(voters, mine, calls[2]) {
			t.Error("not explained")
		}
	}
	first, _ := story()
	if fmt.Sprint(calls) != fmt.Sprint(l) || !reflect.DeepEqual(mine, first) {
		t.Error("something that was handed in has changed")
	}
	if calls[:4][3].Index != 77 || mine[:len(mine)+1][len(mine)].Index != 77 || voters[:4][3] != 77 || calls[0].Forest[:2][1].Depth != 77 || calls[2].C.Spans[:2][1].ID != 77 {
		t.Error("something behind a list's end has changed")
	}
}
