package console

import (
	"errors"
	"reflect"
	"testing"

	"spandrel/api"
	"spandrel/cluster"
)

// P17.2: which step each line is; what its numbers are cannot all be seen in a report.
func TestStep(t *testing.T) {
	spans := []api.Span{{Trace: 3, ID: 4, Parent: 5, Start: 6, End: 7, Name: "8"}, {Trace: 9, ID: 10, Parent: 11, Start: 12, End: 13, Name: "#a"}}
	for s, want := range map[string]api.Step{
		"open 1 2":               {Kind: api.SCall, Client: 1, Node: 2, C: api.Command{Kind: api.COpen}},
		"ingest 1 2 3 4 5 6 7 8": {Kind: api.SCall, Client: 1, Node: 2, C: api.Command{Kind: api.CIngest, Spans: spans[:1]}},
		"ingest 1 2 3 4 5 6 7 8 9 10 11 12 13 #a": {Kind: api.SCall, Client: 1, Node: 2, C: api.Command{Kind: api.CIngest, Spans: spans}},
		"expire 1 2 3":     {Kind: api.SCall, Client: 1, Node: 2, C: api.Command{Kind: api.CExpire, At: 3}},
		"retain 1 2 3":     {Kind: api.SCall, Client: 1, Node: 2, C: api.Command{Kind: api.CRetain, At: 3}},
		"look 1 2 3":       {Kind: api.SCall, Client: 1, Node: 2, Trace: 3},
		"try 1 2":          {Kind: api.STry, Client: 1, Node: 2},
		"quit 1":           {Kind: api.SQuit, Client: 1},
		"tick 1 2":         {Kind: api.STick, Node: 1, Timeout: 2},
		"start 1 2":        {Kind: api.SStart, Node: 1, Timeout: 2},
		"take 1":           {Kind: api.STake, Msg: 1},
		"lose 1":           {Kind: api.SLose, Msg: 1},
		"double 1":         {Kind: api.SDouble, Msg: 1},
		"crash 1 2 3":      {Kind: api.SCrash, Node: 1, Keep: 2, Tear: 3},
		"arm 1 2 3 4":      {Kind: api.SArm, Node: 1, N: 2, Keep: 3, Tear: 4},
		"pack 999999999":   {Kind: api.SPack, Node: 999999999},
		"roster 1 2":       {Kind: api.SRoster, Node: 1, Voters: []int{2}},
		"roster 1 2 3 3 0": {Kind: api.SRoster, Node: 1, Voters: []int{2, 3, 3, 0}},
	} {
		x, ok := readLine(s)
		if got := x.step(); !ok || !reflect.DeepEqual(got, want) {
			t.Errorf("%s: %+v", s, got)
		}
	}
	if x, ok := readLine("cluster 3 0 1"); !ok || x.numbers[nodes] != 3 || !reflect.DeepEqual(x.voters, []int{0, 1}) {
		t.Error(x)
	}
}

// P17.2: the next one in turn, as long as one of the nodes has it committed; the first of them tells it.
func TestCommitted(t *testing.T) {
	entry := func(index, term int) api.Entry { return api.Entry{Index: index, Term: term} }
	l := []api.View{
		{Index: 3, Term: 1, Commit: 5, Entries: []api.Entry{entry(4, 2), entry(5, 2), entry(6, 2)}},
		{},
		{Commit: 4, Entries: []api.Entry{entry(1, 1), entry(2, 1), entry(3, 1), entry(4, 7), entry(5, 7)}},
		{Index: 9, Term: 3, Commit: 9},
	}
	for index, term := range map[int]int{1: 1, 2: 1, 3: 1, 4: 2, 5: 2} {
		if x, there := committed(l, index); !there || x.Index != index || x.Term != term {
			t.Error(index, x, there)
		}
	}
	for _, index := range []int{6, 7, 9, 10} {
		if x, there := committed(l, index); there || !reflect.DeepEqual(x, api.Entry{}) {
			t.Error(index, x, there)
		}
	}
	if x, there := committed(nil, 1); there {
		t.Error(x)
	}
}

// P17.2: check is what audit finds of the first voters, the entries, and the history: where one of them is another one, it tells so.
func TestAudits(t *testing.T) {
	lines, err := read("cluster 1 0\ntick 0 3\ntick 0 3\ntick 0 3\nopen 0 0\nopen 1 0\nlook 2 0 1\ncheck")
	if err != nil {
		t.Fatal(err)
	}
	for name, x := range map[string]struct {
		turn func(*scene)
		want string
	}{
		"nothing":      {func(s *scene) {}, "check -1"},
		"no voters":    {func(s *scene) { s.voters = nil }, "check 0"},
		"no entries":   {func(s *scene) { s.log = nil }, "check 0"},
		"one less":     {func(s *scene) { s.log = s.log[:2] }, "check 1"},
		"another term": {func(s *scene) { s.log[2].Term = 0 }, "check 1"},
		"other data":   {func(s *scene) { s.log[2].Data = []byte{api.CNone} }, "check 1"},
		"no history":   {func(s *scene) { s.Cluster = nil; s.log = nil }, "check -1"},
	} {
		s := scene{Cluster: new(cluster.Cluster)}
		for _, l := range lines[:len(lines)-1] {
			if _, err := s.does(l); err != nil {
				t.Fatal(err)
			}
		}
		x.turn(&s)
		if got := told(s.does(lines[len(lines)-1])); got != x.want {
			t.Errorf("%s: %s", name, got)
		}
	}
}

// DOC.md, Ways: a fault is found by its kind, and so is its error's number, however deep it stands.
func TestFaults(t *testing.T) {
	deep := errors.Join(errors.New("another one"), fault{7, api.ErrRoster})
	if n, e := where(deep); n != 7 || e != api.ErrRoster {
		t.Error(n, e)
	}
	if got := told("ok", deep); got != "error 100" {
		t.Error(got)
	}
	if n, e := where(nil); n != 0 || e != api.OK || told("ok", nil) != "ok" {
		t.Error(n, e)
	}
	lines, err := read("cluster 1 0\n\n# x\ntick 1 1\ncluster 9 0\nstate 7")
	if err != nil || len(lines) != 4 {
		t.Fatal(lines, err)
	}
	s := scene{Cluster: new(cluster.Cluster)}
	for i, want := range []fault{{}, {4, api.ErrStep}, {5, api.ErrArg}, {6, api.ErrNode}} {
		_, err := s.does(lines[i])
		if n, e := where(err); n != want.place || e != want.why {
			t.Error(i, n, e)
		}
	}
	if deep.Error() == "" || !errors.Is(deep, api.ErrRoster) || errors.Is(deep, api.ErrArg) {
		t.Error(deep)
	}
}

// P17.2: a call that ended, and each of its branches, whatever they are.
func TestTell(t *testing.T) {
	c := api.Call{Ended: 9, Reply: api.Reply{Err: 1, Session: 2, Gone: 3, Counts: api.Counts{Added: 4, Same: 5, Other: 6, Cycle: 7, Full: 8}}}
	for _, b := range []api.Branch{{Span: api.Span{Trace: 1, ID: 12}}, {Depth: 2, Span: api.Span{ID: 1 << 40}}, {Orphan: true, Span: api.Span{ID: 7}}, {Orphan: true, Depth: 3, Span: api.Span{ID: 8}}} {
		c.Forest = append(c.Forest, b)
	}
	if got := tellCall(5, c); got != "call 5 0 1 2 3 4 5 6 7 8 12 ..1099511627776 ?7 ?...8" {
		t.Error(got)
	}
	if got := tellCall(0, api.Call{Began: 3}); got != "call 0 waits" {
		t.Error(got)
	}
	v := api.View{ID: 1, Role: 2, Leader: 3, Hard: api.Hard{Term: 4, Vote: 5}, Commit: 6, Index: 7, Term: 8, Voters: []int{0, 4}, Entries: make([]api.Entry, 9)}
	if got := tellView(v); got != "state 2 3 4 6 7 16 voters 0 4" {
		t.Error(got)
	}
	if got := tell("word"); got != "word" {
		t.Error(got)
	}
	if got := tell("word", -1, 0, 1<<40); got != "word -1 0 1099511627776" {
		t.Error(got)
	}
}
