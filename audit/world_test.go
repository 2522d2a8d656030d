package audit_test

import (
	"math/rand"
	"slices"
	"testing"

	"spandrel/api"
	"spandrel/audit"
	"spandrel/cluster"
)

// world is a cluster that random steps drive, and what was seen of it.
type world struct {
	t    *testing.T
	r    *rand.Rand
	c    *cluster.Cluster
	lead int         // who was seen to lead last
	log  []api.Entry // what was committed
	old  []api.View  // some that were seen on the way
}

// asks is a step of a client.
func (w *world) asks(n int) api.Step {
	s := api.Step{Client: w.r.Intn(api.MaxClients), Node: n}
	switch _, _, waits := w.c.Client(s.Client); {
	case waits && w.r.Intn(12) == 0:
		s.Kind = api.SQuit
	case waits:
		s.Kind = api.STry
	default:
		s.Kind, s.Trace = api.SCall, 1+w.r.Intn(2)
		if w.r.Intn(5) > 1 {
			s.C, s.Trace = some(w.r, len(w.log)), 0
		}
		if session, _, _ := w.c.Client(s.Client); session == 0 && w.r.Intn(4) > 0 {
			s.C = opens()
		}
	}
	return s
}

// others is the voters of who leads, and one more, or one less.
func (w *world) others() []int {
	at := w.c.Node(w.lead)
	if at == nil {
		return nil
	}
	l, n := at.View().Voters, w.r.Intn(w.c.Nodes())
	if i := slices.Index(l, n); i >= 0 {
		return slices.Delete(l, i, i+1)
	}
	l = append(l, n)
	slices.Sort(l)
	return l
}

// step is one drawn at random: mostly messages that come, and asks of who leads.
func (w *world) step() api.Step {
	n := w.r.Intn(w.c.Nodes())
	s := api.Step{Node: n, Timeout: 2 + w.r.Intn(9), Keep: w.r.Intn(3), Tear: w.r.Intn(3), N: 1 + w.r.Intn(9)}
	if l := w.c.Waiting(); len(l) > 0 && w.r.Intn(3) > 0 {
		s.Msg, s.Kind = l[w.r.Intn(len(l))], api.STake
		switch w.r.Intn(20) {
		case 0:
			s.Kind = api.SLose
		case 1:
			s.Kind = api.SDouble
		}
		return s
	}
	switch w.r.Intn(40) {
	case 0:
		s.Kind = api.SCrash
	case 1:
		s.Kind = api.SArm
	case 2:
		s.Kind = api.SPack
	case 3:
		s.Kind, s.Node, s.Voters = api.SRoster, w.lead, w.others()
	case 4, 5, 6, 7:
		s.Kind = api.SStart
	case 8, 9, 10, 11, 12, 13, 14:
		s.Kind = api.STick
	case 15, 16:
		return w.asks(n)
	default:
		return w.asks(w.lead)
	}
	return s
}

// runs drives the cluster, and fails if at some step something is found of its nodes.
func (w *world) runs(steps int) {
	w.t.Helper()
	for i := range steps {
		w.c.Step(w.step())
		var l []api.View
		for n := range w.c.Nodes() {
			at := w.c.Node(n)
			if at == nil {
				continue
			}
			v := at.View()
			l = append(l, v)
			if v.Role == api.Leader {
				w.lead = n
			}
			if v.Commit > len(w.log) {
				w.log = append(w.log, v.Entries[len(w.log)-v.Index:v.Commit-v.Index]...)
			}
		}
		if got := audit.Look(l...); got != nil {
			w.t.Fatalf("%v: %+v", got, l)
		}
		if i%50 == 0 {
			w.old = append(w.old, l...)
		}
	}
}

// settled fails if something is found of views of different times, but that who leads goes on to lead; or if there is a call that can't be.
func (w *world) settled() []api.Call {
	w.t.Helper()
	for _, f := range audit.Look(w.old...) {
		if f.Kind != api.FLeader || w.old[f.A].ID != w.old[f.B].ID {
			w.t.Fatalf("%v: %+v %+v", f, w.old[f.A], w.old[f.B])
		}
	}
	l := w.c.History()
	if got := audit.Linear(three, w.log, l); got != -1 {
		w.t.Fatalf("%d: %+v", got, l[got])
	}
	return l
}

// DOC.md, P1, P4; chapter 16: whatever the script is, nothing is found of the nodes, and there is no call that can't be. Where something else was told, Linear is what its words say.
func TestWorld(t *testing.T) {
	entries, ended, looks, found, again, rosters := 0, 0, 0, 0, 0, 0
	for seed := range int64(40) {
		w := &world{t: t, r: rand.New(rand.NewSource(seed))}
		var e api.Errno
		if w.c, e = cluster.New(3+int(seed%3), three, 1<<20, 2); e != api.OK {
			t.Fatal(e)
		}
		w.runs(1500)
		l := w.settled()
		entries += len(w.log)
		for _, x := range w.log {
			if x.Data[0] == api.CRoster {
				rosters++
			}
		}
		for place, c := range l {
			if c.Ended == 0 {
				continue
			}
			ended++
			if !audit.Explained(three, w.log, c) {
				t.Fatalf("%+v", c)
			}
			if c.C.Kind == api.CNone {
				looks++
			}
			if audit.First(w.log, c) != c.Index {
				again++
			}
			spoil(w.r, &l[place], len(w.log))
			if w.r.Intn(3) == 0 {
				l[place].Began, l[place].Ended = c.Began-w.r.Intn(200), c.Ended+w.r.Intn(200)-100
			}
			if w.r.Intn(15) == 0 {
				got := audit.Linear(three, w.log, l)
				if want := plainLinear(three, w.log, l); got != want {
					t.Fatal(seed, place, got, want)
				}
				if got >= 0 {
					found++
				}
			}
			l[place] = c
		}
	}
	t.Log(entries, ended, looks, found, again, rosters)
	if entries < 2000 || ended < 1000 || looks < 300 || found < 60 || again < 1 || rosters < 50 {
		t.Error("too little came of it")
	}
}

// DOC.md, example 3; P16.3: an ingest's answer is lost with the node that led; it took effect at the entry which that one had put in.
func TestTriedAgain(t *testing.T) {
	c, e := cluster.New(3, three, 1<<20, 1)
	if e != api.OK {
		t.Fatal(e)
	}
	does := func(l ...api.Step) {
		t.Helper()
		for _, s := range l {
			if e := c.Step(s); e != api.OK {
				t.Fatalf("%+v: %d", s, e)
			}
		}
	}
	carry := func() {
		t.Helper()
		for len(c.Waiting()) > 0 {
			does(api.Step{Kind: api.STake, Msg: c.Waiting()[0]})
		}
	}
	does(api.Step{Kind: api.STick, Timeout: 9})
	carry()
	does(api.Step{Kind: api.SCall, C: opens()})
	carry()
	does(api.Step{Kind: api.SCall, C: ingest(0, 0, span(1))})
	for _, id := range c.Waiting() {
		does(api.Step{Kind: api.STake, Msg: id})
	}
	does(api.Step{Kind: api.SCrash})
	carry()
	for c.Node(1).View().Role != api.Leader {
		does(api.Step{Kind: api.STick, Node: 1, Timeout: 1})
		carry()
	}
	does(api.Step{Kind: api.SCall, Client: 1, Node: 1, Trace: 1})
	carry()
	does(api.Step{Kind: api.STry, Node: 1})
	carry()
	v, l := c.Node(1).View(), c.History()
	if first := audit.First(v.Entries, l[1]); first != 3 || l[1].Index != 5 || l[1].Reply.Counts.Added != 1 || l[2].Index != 4 || len(l[2].Forest) != 1 {
		t.Fatalf("%d %+v", first, l)
	}
	if got := audit.Linear(three, v.Entries, l); got != -1 {
		t.Error(got)
	}
	// Had it begun when the look had ended, the look would have shown what was not there.
	l[1].Began = l[2].Ended + 1
	if got := audit.Linear(three, v.Entries, l); got != 1 {
		t.Error(got)
	}
}

// P16.5, held against its words where one of the nodes' views has another entry or commit, or leads.
func TestWorldTurned(t *testing.T) {
	count := map[int]int{}
	for seed := range int64(10) {
		w := &world{t: t, r: rand.New(rand.NewSource(50 + seed))}
		w.c, _ = cluster.New(3, three, 1<<20, 2)
		w.runs(800)
		for range 200 {
			l := slices.Clone(w.old)
			v := &l[w.r.Intn(len(l))]
			v.Entries = slices.Clone(v.Entries)
			switch n := len(v.Entries); w.r.Intn(4) {
			case 0:
				v.Role = api.Leader
			case 1:
				v.Commit += w.r.Intn(3)
			default:
				if n > 0 {
					v.Entries[w.r.Intn(n)].Data = []byte{byte(w.r.Intn(9))}
				}
			}
			got := audit.Look(l...)
			if want := plainLook(l); !slices.Equal(got, want) {
				t.Fatal(seed, got, want)
			}
			for _, f := range got {
				count[f.Kind]++
			}
		}
	}
	t.Log(count)
	for kind := 1; kind <= 4; kind++ {
		if count[kind] < 30 {
			t.Error(kind, count[kind])
		}
	}
}
