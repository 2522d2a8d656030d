package console_test

import (
	"fmt"
	"math/rand"
	"strconv"
	"strings"
	"testing"

	"spandrel/api"
	"spandrel/audit"
	"spandrel/cluster"
)

// plain is a console told line by line, and the text that it was told.
type plain struct {
	t       *testing.T
	c       *cluster.Cluster // nil: there is none
	voters  []int
	chosen  map[int]api.Entry // what was seen to be committed, by indices
	lead    int               // who was seen to lead last
	lines   []string
	answers []string
	count   map[string]int
	bytes   int // of the text
	calls   int // how many began
}

func newPlain(t *testing.T) *plain {
	return &plain{t: t, count: map[string]int{}}
}

// numbers is the numbers of some parts; of a name it is 0.
func numbers(l []string) []int {
	var all []int
	for _, s := range l {
		n, _ := strconv.Atoi(s)
		all = append(all, n)
	}
	return all
}

// stepOf is the step of a line.
func stepOf(word string, l []string) api.Step {
	n := numbers(append(l, "0", "0", "0", "0"))
	switch word {
	case "open", "expire", "retain", "look", "ingest":
		s := api.Step{Kind: 1, Client: n[0], Node: n[1]}
		switch word {
		case "open":
			s.C.Kind = 1
		case "expire":
			s.C.Kind, s.C.At = 3, n[2]
		case "retain":
			s.C.Kind, s.C.At = 4, n[2]
		case "look":
			s.Trace = n[2]
		case "ingest":
			s.C.Kind = 2
			for i := 2; i < len(l); i += 6 {
				s.C.Spans = append(s.C.Spans, api.Span{Trace: n[i], ID: n[i+1], Parent: n[i+2], Start: n[i+3], End: n[i+4], Name: l[i+5]})
			}
		}
		return s
	case "try":
		return api.Step{Kind: 2, Client: n[0], Node: n[1]}
	case "quit":
		return api.Step{Kind: 3, Client: n[0]}
	case "tick":
		return api.Step{Kind: 4, Node: n[0], Timeout: n[1]}
	case "take", "lose", "double":
		return api.Step{Kind: map[string]int{"take": 5, "lose": 6, "double": 7}[word], Msg: n[0]}
	case "crash":
		return api.Step{Kind: 8, Node: n[0], Keep: n[1], Tear: n[2]}
	case "arm":
		return api.Step{Kind: 9, Node: n[0], N: n[1], Keep: n[2], Tear: n[3]}
	case "pack":
		return api.Step{Kind: 10, Node: n[0]}
	case "start":
		return api.Step{Kind: 11, Node: n[0], Timeout: n[1]}
	case "roster":
		return api.Step{Kind: 12, Node: n[0], Voters: n[1:len(l)]}
	}
	return api.Step{}
}

// seen is the entries that were seen to be committed.
func (p *plain) seen() []api.Entry {
	var l []api.Entry
	for {
		x, there := p.chosen[len(l)+1]
		if !there {
			return l
		}
		l = append(l, x)
	}
}

// looks looks at all nodes.
func (p *plain) looks() {
	for n := range 7 {
		at := p.c.Node(n)
		if at == nil {
			continue
		}
		v := at.View()
		if v.Role == 2 {
			p.lead = n
		}
		for _, x := range v.Entries {
			was, there := p.chosen[x.Index]
			if x.Index > v.Commit {
				continue
			}
			if there && (was.Term != x.Term || string(was.Data) != string(x.Data)) {
				p.t.Fatal("two that were committed:", was, x)
			}
			p.chosen[x.Index] = x
		}
	}
}

// does is P17.2: what a line answers.
func (p *plain) does(line string) string {
	l := strings.Fields(line)
	word, n := l[0], numbers(l[1:])
	switch word {
	case "cluster":
		c, e := cluster.New(n[0], n[1:], 1<<24, 3)
		if e != 0 {
			return fmt.Sprintf("error %d", e)
		}
		p.c, p.voters, p.chosen, p.calls = c, n[1:], map[int]api.Entry{}, 0
		return "ok"
	case "state":
		at := p.c.Node(n[0])
		if at == nil {
			return "error 140"
		}
		v := at.View()
		if v.Index > 0 {
			p.count["a base"]++
		}
		return strings.TrimSuffix(fmt.Sprintln("state", v.Role, v.Leader, v.Hard.Term, v.Commit, v.Index, v.Index+len(v.Entries), "voters", strings.Trim(fmt.Sprint(v.Voters), "[]")), "\n")
	case "log":
		s := "log"
		for _, x := range p.seen() {
			s += fmt.Sprint(" ", x.Term)
		}
		return s
	case "check":
		return fmt.Sprint("check ", audit.Linear(p.voters, p.seen(), p.c.History()))
	}
	s := stepOf(word, l[1:])
	e := p.c.Step(s)
	p.looks()
	if s.Kind == 1 {
		was := p.calls
		now := p.c.History()
		if p.calls = len(now); p.calls > was {
			return p.call(now, e)
		}
	}
	if e != 0 {
		p.count[fmt.Sprintf("%s: %d", word, e)]++
		return fmt.Sprintf("error %d", e)
	}
	return "ok"
}

// call is what a call that began answers.
func (p *plain) call(l []api.Call, e api.Errno) string {
	c := l[len(l)-1]
	p.count[fmt.Sprintf("call %d", c.C.Kind)]++
	if e != 0 {
		p.count[fmt.Sprintf("began: %d", e)]++
	}
	if c.Ended == 0 {
		p.count["waits"]++
		return fmt.Sprintf("call %d waits", len(l)-1)
	}
	p.count["ends"]++
	p.count[fmt.Sprintf("reply: %d", c.Reply.Err)]++
	s := fmt.Sprintf("call %d %d %d %d %d %d %d %d %d %d", len(l)-1, c.Index, c.Reply.Err, c.Reply.Session, c.Reply.Gone,
		c.Reply.Counts.Added, c.Reply.Counts.Same, c.Reply.Counts.Other, c.Reply.Counts.Cycle, c.Reply.Counts.Full)
	for _, b := range c.Forest {
		s += " "
		if b.Orphan {
			s += "?"
			p.count["an orphan"]++
		}
		for range b.Depth {
			s += "."
			p.count["beneath"]++
		}
		s += fmt.Sprint(b.Span.ID)
	}
	return s
}

// tells has a line told, which may say nothing.
func (p *plain) tells(line string) {
	p.lines, p.bytes = append(p.lines, line), p.bytes+len(line)+1
	if line != "" && line[0] != '#' {
		p.answers = append(p.answers, p.does(line)+"\n")
	}
}

// strange is a number that may be one of nothing.
func strange(r *rand.Rand, n int) int {
	if r.Intn(40) == 0 {
		return []int{n, n + 1, 7, 999999999, 100}[r.Intn(5)]
	}
	return r.Intn(n)
}

// voters is some voters, most of which may be.
func voters(r *rand.Rand, nodes int) string {
	s := ""
	for n := range nodes {
		if r.Intn(4) > 0 {
			s += fmt.Sprint(" ", n)
		}
	}
	if s == "" || r.Intn(12) == 0 {
		s += fmt.Sprint(" ", strange(r, 7))
	}
	return s
}

// asks is a line of a client who does not wait.
func asks(r *rand.Rand, who string, session bool) string {
	switch n := r.Intn(20); {
	case !session && n < 9 || n < 1:
		return "open" + who
	case n < 11 && (session || n < 2):
		line := "ingest" + who
		for range 1 + r.Intn(3) {
			id := 1 + r.Intn(30)
			end := 1 + r.Intn(9)
			line += fmt.Sprintf(" %d %d %d %d %d %c", 1+r.Intn(3), id, max(0, r.Intn(30)-9), r.Intn(2)*end, end+r.Intn(50)/49, 'a'+r.Intn(2))
		}
		return line
	case n < 13:
		return fmt.Sprint("expire", who, " ", r.Intn(400))
	case n < 14:
		return fmt.Sprint("retain", who, " ", r.Intn(12))
	}
	return fmt.Sprint("look", who, " ", strange(r, 4))
}

// draws is a line of a client, of a node or of a message that is on the way.
func (p *plain) draws(r *rand.Rand) string {
	n := strange(r, p.c.Nodes())
	if r.Intn(3) > 0 {
		n = p.lead
	}
	if l := p.c.Waiting(); len(l) > 0 && r.Intn(3) > 0 {
		return message(r, l[r.Intn(min(6, len(l)))])
	}
	who := strange(r, 4)
	session, _, waits := p.c.Client(who)
	at := fmt.Sprint(" ", who, " ", n)
	switch k := r.Intn(200); {
	case k < 6:
		return message(r, strange(r, 300))
	case k < 20 && waits:
		return fmt.Sprint("quit ", who)
	case k < 60 && waits:
		return "try" + at
	case k < 130 && (!waits || r.Intn(12) == 0):
		return asks(r, at, session != 0)
	case k < 155:
		return fmt.Sprint("tick ", n, " ", 1+r.Intn(9))
	case k < 157:
		return fmt.Sprint("crash ", n, " ", r.Intn(3), " ", r.Intn(9))
	case k < 159:
		return fmt.Sprint("arm ", n, " ", r.Intn(9), " ", r.Intn(3), " ", r.Intn(9))
	case k < 163:
		return fmt.Sprint("pack ", n)
	case k < 180:
		for n := range p.c.Nodes() {
			if p.c.Node(n) == nil && r.Intn(2) == 0 {
				return fmt.Sprint("start ", n, " ", 1+r.Intn(9))
			}
		}
		return fmt.Sprint("tick ", n, " ", 1+r.Intn(9))
	case k < 186:
		return fmt.Sprint("roster ", n, voters(r, p.c.Nodes()))
	case k < 195:
		return fmt.Sprint("state ", n)
	case k < 197:
		return "log"
	case k < 199:
		return "check"
	}
	return fmt.Sprint("start ", n, " ", 1+r.Intn(9))
}

// message is a line of a message: most of them come.
func message(r *rand.Rand, id int) string {
	words := []string{"lose", "lose", "double", "take"}
	return fmt.Sprint(words[min(r.Intn(40), 3)], " ", id)
}

// drawn is a console that was told a text drawn at random, of so many bytes at most, with another cluster now and then.
func drawn(t *testing.T, seed int64, bytes int) *plain {
	t.Helper()
	r := rand.New(rand.NewSource(seed))
	p := newPlain(t)
	for p.bytes < bytes-200 {
		switch {
		case p.c == nil && r.Intn(4) > 0, r.Intn(1500) == 0:
			nodes := 1 + r.Intn(5)
			p.tells(fmt.Sprint("cluster ", nodes, voters(r, nodes)))
		case p.c == nil:
			p.tells([]string{"state 0", "log", "check", "open 0 0", "look 1 2 3", "take 1", "roster 1 0"}[r.Intn(7)])
		default:
			p.tells(p.draws(r))
		}
	}
	p.tells("log")
	p.tells("check")
	return p
}

// P17.2, P17.6: whatever a text says, its report is what one answers who is told it line by line, and its checks find nothing.
func TestPlain(t *testing.T) {
	all := map[string]int{}
	for seed := range int64(24) {
		p := drawn(t, seed, 1<<15)
		if got, want := report(t, text(p.lines...)), strings.Join(p.answers, ""); got != want {
			l := strings.SplitAfter(got, "\n")
			for i, x := range p.answers {
				if i >= len(l) || l[i] != x {
					t.Fatalf("%d: answer %d: %q not %q", seed, i, l[min(i, len(l)-1)], x)
				}
			}
			t.Fatal(seed, "more than was asked for")
		}
		for k, n := range p.count {
			all[k] += n
		}
		for _, x := range p.answers {
			if strings.HasPrefix(x, "check") {
				all["check"]++
				if x != "check -1\n" {
					t.Fatal(seed, x)
				}
			}
		}
		all["entries"] += len(p.seen())
		if l := p.seen(); len(l) > 0 && l[len(l)-1].Term > 3 {
			all["terms"]++
		}
	}
	t.Log(all)
	for k, least := range map[string]int{"call 0": 300, "call 1": 300, "call 2": 300, "call 3": 50, "call 4": 50, "waits": 500, "ends": 500, "reply: 0": 300, "reply: 80": 10, "began: 120": 50, "began: 22": 1, "open: 150": 10, "take: 130": 50, "a base": 100, "an orphan": 100, "beneath": 100, "check": 300, "entries": 2000, "terms": 10} {
		if all[k] < least {
			t.Error(k, all[k])
		}
	}
}
