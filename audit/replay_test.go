package audit_test

import (
	"math"
	"math/rand"
	"reflect"
	"slices"
	"testing"

	"spandrel/api"
	"spandrel/audit"
	"spandrel/machine"
)

// P16.1: what the entries of a log answer, one behind the other; a reply that refuses a command is one too.
func TestReplay(t *testing.T) {
	log, want := story()
	if got := audit.Replay(three, log...); !slices.Equal(got, want) {
		t.Errorf("%+v", got)
	}
	for _, voters := range [][]int{{0}, {6}, {0, 1, 2, 3, 4, 5, 6}} {
		if got := audit.Replay(voters, log...); !slices.Equal(got, want) {
			t.Errorf("%d: %+v", voters, got)
		}
	}
}

// P16.1: chapter 16's example.
func TestReplayExample(t *testing.T) {
	if got := audit.Replay([]int{0}, entry(1, 1, opens())); !slices.Equal(got, []api.Reply{{Session: 1}}) {
		t.Error(got)
	}
}

// P16.1: none of no entries, and none where the voters can't be.
func TestReplayNothing(t *testing.T) {
	log, _ := story()
	if got := audit.Replay(three); got != nil {
		t.Error(got)
	}
	if got := audit.Replay(three, []api.Entry{}...); got != nil {
		t.Error(got)
	}
	for _, voters := range noVoters {
		if got := audit.Replay(voters, log...); got != nil {
			t.Error(voters, got)
		}
	}
}

// P16.1: replies end at the first entry that is refused, whatever stands behind it.
func TestReplayEnds(t *testing.T) {
	for name, x := range map[string]api.Entry{
		"the index again":      {Index: 3, Term: 2},
		"an index too far":     {Index: 5, Term: 2},
		"index 0":              {Term: 2},
		"an index below":       {Index: -4, Term: 2},
		"a huge index":         {Index: math.MaxInt, Term: 2},
		"the lowest index":     {Index: math.MinInt, Term: 2},
		"a term that falls":    {Index: 4, Term: 1},
		"term 0":               {Index: 4},
		"a term below":         {Index: 4, Term: -1},
		"a term too far":       {Index: 4, Term: most + 1},
		"the greatest integer": {Index: 4, Term: math.MaxInt},
	} {
		x.Data = data(opens())
		log := []api.Entry{entry(1, 1, opens()), entry(2, 2, opens()), entry(3, 2, opens()), x, entry(4, 2, opens()), entry(5, 2, opens())}
		if got := audit.Replay(three, log...); !slices.Equal(got, []api.Reply{{Session: 1}, {Session: 2}, {Session: 3}}) {
			t.Error(name, got)
		}
		if got := audit.Replay(three, log[3:]...); got != nil {
			t.Error(name, got)
		}
	}
	log := []api.Entry{entry(1, most-1, opens()), entry(2, most, opens()), entry(3, most, opens()), entry(4, most+1, opens())}
	if got := audit.Replay(three, log...); len(got) != 3 {
		t.Error(got)
	}
}

// P16.1: an entry whose Data is no command's answers ErrCommand, and the replies go on behind it.
func TestReplayNoCommand(t *testing.T) {
	for _, b := range [][]byte{nil, {}, {9}, {0, 0}, {2, 1, 1}, make([]byte, 5000)} {
		log := []api.Entry{entry(1, 1, opens()), {Index: 2, Term: 1, Data: b}, entry(3, 1, opens())}
		if got := audit.Replay(three, log...); !slices.Equal(got, []api.Reply{{Session: 1}, {Err: api.ErrCommand}, {Session: 3}}) {
			t.Error(b, got)
		}
	}
}

// P16.6: replies of a log's first entries are the first of its replies; and P16.1: they are a machine's.
func TestReplayBeginnings(t *testing.T) {
	short := 0
	for seed := range int64(300) {
		r := rand.New(rand.NewSource(seed))
		log := drawn(r, r.Intn(40))
		all := audit.Replay(three, log...)
		for n := range len(log) + 1 {
			if got := audit.Replay(three, log[:n]...); !slices.Equal(got, all[:min(n, len(all))]) {
				t.Fatal(seed, n, got, all)
			}
		}
		m, _ := machine.New(three...)
		for i, x := range log {
			want, e := m.Apply(x)
			if (e == api.OK) != (i < len(all)) || e == api.OK && all[i] != want {
				t.Fatal(seed, i, want, e, all)
			}
			if e != api.OK {
				short++
				break
			}
		}
	}
	if short < 20 {
		t.Error("few logs were refused:", short)
	}
}

// DOC.md, Memory: what is handed in stays as it is, the room behind it too, and answers are new.
func TestReplayMemory(t *testing.T) {
	log, want := story()
	mine, voters := spare(api.Entry{Index: 77}, log...), spare(77, three...)
	got := audit.Replay(voters, mine...)
	clear(got[:cap(got)])
	if again := audit.Replay(voters, mine...); !slices.Equal(again, want) {
		t.Error(again)
	}
	first, _ := story()
	if !reflect.DeepEqual(mine, first) || mine[:len(mine)+1][len(mine)].Index != 77 || !slices.Equal(voters[:4], []int{0, 1, 2, 77}) {
		t.Error("something that was handed in has changed")
	}
}
