package console_test

import (
	"fmt"
	"strings"
	"testing"

	"spandrel/api"
	"spandrel/console"
)

// The chapter's example.
func TestExample(t *testing.T) {
	script := text("cluster 1 0", "tick 0 3", "tick 0 3", "tick 0 3", "open 0 0", "ingest 0 0 1 2 0 0 5 a", "look 0 0 1", "check")
	want := "ok\nok\nok\nok\ncall 0 2 0 2 0 0 0 0 0 0\ncall 1 3 0 0 0 1 0 0 0 0\ncall 2 3 0 0 0 0 0 0 0 0 2\ncheck -1\n"
	for _, end := range []string{"", "\n", "\n\n", "\n#"} {
		if got := report(t, script+end); got != want {
			t.Errorf("%q", got)
		}
	}
}

// P17.2: a text that is none has no report, though it begins well.
func TestRunNone(t *testing.T) {
	for _, x := range []struct {
		script string
		place  int
		e      api.Errno
	}{
		{"cluster 1 0\nx", 2, api.ErrLine},
		{"check\n\ncheck\ncheck \nx", 4, api.ErrLine},
		{"cluster 1 0\n" + strings.Repeat("#", api.MaxText), 0, api.ErrLong},
		{"x\n" + strings.Repeat("#", api.MaxText), 0, api.ErrLong},
	} {
		if told, n, e := console.Run(x.script); told != "" || n != x.place || e != x.e {
			t.Errorf("%.20q: %q %d %d", x.script, told, n, e)
		}
	}
	for _, script := range []string{"", "\n", "#", "# log\n\n"} {
		plays(t, script, "")
	}
}

// P17.2: ahead of a cluster there is one that no call made: each step is ErrNil, no node runs, and nothing was committed.
func TestNoCluster(t *testing.T) {
	var l []string
	for _, line := range right {
		switch word, _, _ := strings.Cut(line, " "); word {
		case "cluster":
			l = append(l, "cluster 0 0", "error 1")
		case "state":
			l = append(l, "state 0", "error 140", "state 999999999", "error 140")
		case "log":
			l = append(l, "log", "log")
		case "check":
			l = append(l, "check", "check -1")
		default:
			l = append(l, line, "error 6")
		}
	}
	l = append(l, "open 0 0", "error 6", "tick 0 1", "error 6", "look 0 0 1", "error 6", "cluster 2 5", "error 100", "tick 0 1", "error 6")
	plays(t, with(l, l, alone(), []string{"open 0 0", "call 0 2 0 2 0 0 0 0 0 0"})...)
}

// P17.2: which clusters there are not; the one that is there stays, with all that was seen of it.
func TestClusterStays(t *testing.T) {
	l := with(alone(), []string{"open 0 0", "call 0 2 0 2 0 0 0 0 0 0"})
	for line, e := range map[string]string{
		"cluster 0 0": "error 1", "cluster 8 0": "error 1", "cluster 999999999 0": "error 1", "cluster 0 9 9": "error 1",
		"cluster 1 1": "error 100", "cluster 2 1 0": "error 100", "cluster 3 1 1": "error 100", "cluster 3 0 3": "error 100", "cluster 7 7": "error 100",
		"cluster 3 999999999": "error 100", "cluster 7 0 1 2 3 4 5 6 6": "error 100", "cluster 7 0 1 2 3 4 5 6 7": "error 100",
	} {
		l = append(l, line, e, "state 0", "state 2 1 1 2 0 2 voters 0", "log", "log 1 1", "check", "check -1")
	}
	plays(t, append(l, "open 1 0", "call 1 3 0 3 0 0 0 0 0 0", "log", "log 1 1 1")...)
}

// P17.2: another cluster is the cluster from then on: its nodes, its history, its entries, its voters.
func TestClusterAnew(t *testing.T) {
	plays(t, with(alone(), []string{
		"open 0 0", "call 0 2 0 2 0 0 0 0 0 0",
		"open 1 0", "call 1 3 0 3 0 0 0 0 0 0",
		"log", "log 1 1 1",
		"cluster 2 1", "ok",
		"log", "log",
		"check", "check -1",
		"state 0", "state 0 0 0 0 0 0 voters 1",
		"state 2", "error 140",
		"ingest 0 0 1 1 0 0 0 a", "error 150",
		"tick 1 1", "ok", "tick 1 1", "ok", "tick 1 1", "ok", "log", "log", "tick 1 1", "ok",
		"log", "log 1",
		"retain 0 1 7", "call 0 2 0 0 0 0 0 0 0 0",
		"log", "log 1 1",
		"check", "check -1",
		"cluster 2 1", "ok",
		"look 3 0 1", "call 0 waits",
		"check", "check -1",
	})...)
}

// P17.2: the node n of a cluster stands at its tick 3 + n, and from then on as tick and start say.
func TestTimeouts(t *testing.T) {
	l := []string{"cluster 7 0 1 2 3 4 5 6", "ok"}
	for n := range 7 {
		for range 2 + n {
			l = append(l, fmt.Sprint("tick ", n, " 1"), "ok")
		}
		l = append(l, fmt.Sprint("state ", n), "state 0 0 0 0 0 0 voters 0 1 2 3 4 5 6", fmt.Sprint("tick ", n, " ", 2+n), "ok")
		for range 1 + n {
			l = append(l, fmt.Sprint("state ", n), "state 1 0 1 0 0 0 voters 0 1 2 3 4 5 6", fmt.Sprint("tick ", n, " 1"), "ok")
		}
		l = append(l, fmt.Sprint("tick ", n, " 1"), "ok", fmt.Sprint("state ", n), "state 1 0 2 0 0 0 voters 0 1 2 3 4 5 6")
	}
	l = append(l, "crash 3 0 0", "ok", "start 3 4", "ok", "state 3", "state 0 0 2 0 0 0 voters 0 1 2 3 4 5 6")
	for range 3 {
		l = append(l, "tick 3 9", "ok")
	}
	plays(t, append(l, "state 3", "state 0 0 2 0 0 0 voters 0 1 2 3 4 5 6", "tick 3 9", "ok", "state 3", "state 1 0 3 0 0 0 voters 0 1 2 3 4 5 6")...)
}

// P17.2: what each call comes to: its index, all of its reply, its forest.
func TestCalls(t *testing.T) {
	plays(t, with(alone(), []string{
		"state 0", "state 2 1 1 1 0 1 voters 0",
		"open 3 0", "call 0 2 0 2 0 0 0 0 0 0",
		"ingest 3 0 1 1 0 0 5 a 1 2 1 0 5 b", "call 1 3 0 0 0 2 0 0 0 0",
		"ingest 3 0 1 1 0 0 5 a 1 2 1 0 5 c 1 3 0 0 5 d 1 4 0 0 5 e 1 2 1 0 5 b 1 5 0 0 5 f", "call 2 4 0 0 0 3 2 1 0 0",
		"ingest 3 0 1 6 7 0 0 x 1 7 6 0 0 y", "call 3 5 0 0 0 1 0 0 1 0",
		"look 3 0 1", "call 4 5 0 0 0 0 0 0 0 0 1 .2 3 4 5 ?6",
		"look 0 0 9", "call 5 5 0 0 0 0 0 0 0 0",
		"retain 1 0 5", "call 6 6 0 0 0 0 0 0 0 0",
		"retain 1 0 6", "call 7 7 0 0 1 0 0 0 0 0",
		"look 3 0 1", "call 8 7 0 0 0 0 0 0 0 0",
		"open 0 0", "call 9 8 0 8 0 0 0 0 0 0",
		"expire 2 0 5", "call 10 9 0 0 0 0 0 0 0 0",
		"expire 2 0 999999999", "call 11 10 0 0 2 0 0 0 0 0",
		"ingest 3 0 1 1 0 0 5 a", "call 12 11 80 0 0 0 0 0 0 0",
		"ingest 3 0 1 1 0 0 5 a", "error 150",
		"open 3 0", "call 13 12 0 12 0 0 0 0 0 0",
		"ingest 3 0 999999999 999999999 999999998 5 999999999 " + strings.Repeat("~", 32), "call 14 13 0 0 0 1 0 0 0 0",
		"look 1 0 999999999", "call 15 13 0 0 0 0 0 0 0 0 ?999999999",
		"log", "log 1 1 1 1 1 1 1 1 1 1 1 1 1",
		"check", "check -1",
	})...)
}

// P17.2: what there is no room for: a trace too many, and a session too many.
func TestCallsFull(t *testing.T) {
	l := with(alone(), []string{"open 0 0", "call 0 2 0 2 0 0 0 0 0 0"})
	for n := range 4 {
		line := "ingest 0 0"
		for i := range 8 {
			line += fmt.Sprint(" ", 8*n+i+1, " 1 0 0 0 a")
		}
		l = append(l, line, fmt.Sprintf("call %d %d 0 0 0 8 0 0 0 0", n+1, n+3))
	}
	l = append(l, "ingest 0 0 1 6 7 0 0 x 1 7 6 0 0 y 33 1 0 0 0 a 34 1 0 0 0 a 1 1 0 0 0 a 35 1 0 0 0 a", "call 5 7 0 0 0 1 1 0 1 3")
	for n := range 7 {
		l = append(l, "open 1 0", fmt.Sprintf("call %d %d 0 %d 0 0 0 0 0 0", 6+n, 8+n, 8+n))
	}
	plays(t, append(l, "open 1 0", "call 13 15 7 0 0 0 0 0 0 0", "check", "check -1")...)
}

// P17.2: of each branch its ID, a point for each step down, and a ? ahead of an orphan.
func TestForest(t *testing.T) {
	plays(t, with(alone(), []string{
		"open 0 0", "call 0 2 0 2 0 0 0 0 0 0",
		"ingest 0 0 1 3 2 0 5 c 1 2 1 0 5 b 1 1 0 0 5 a 1 10 7 0 5 d 1 7 99 0 5 e 1 4 3 0 5 f 1 5 1 0 5 g 1 11 10 0 5 h", "call 1 3 0 0 0 8 0 0 0 0",
		"look 0 0 1", "call 2 3 0 0 0 0 0 0 0 0 1 .2 ..3 ...4 .5 ?7 .10 ..11",
		"ingest 0 0 1 99 0 9 9 z", "call 3 4 0 0 0 1 0 0 0 0",
		"look 0 0 1", "call 4 4 0 0 0 0 0 0 0 0 1 .2 ..3 ...4 .5 99 .7 ..10 ...11",
	})...)
	l := with(alone(), []string{"open 0 0", "call 0 2 0 2 0 0 0 0 0 0"})
	forest := ""
	for n := range 8 {
		line := "ingest 0 0"
		for i := range 8 {
			id := 8*n + i + 1
			line += fmt.Sprintf(" 1 %d %d 0 0 a", id, id-1)
			forest += fmt.Sprint(" ", strings.Repeat(".", id-1), id)
		}
		l = append(l, line, fmt.Sprintf("call %d %d 0 0 0 8 0 0 0 0", n+1, n+3))
	}
	plays(t, append(l, "look 0 0 1", "call 9 10 0 0 0 0 0 0 0 0"+forest)...)
}

// P17.2: calls that can't be do not begin, and count no place.
func TestNoCall(t *testing.T) {
	plays(t, with(alone(), []string{
		"open 4 0", "error 150",
		"open 0 1", "error 140",
		"open 999999999 999999999", "error 150",
		"look 0 0 0", "error 150",
		"ingest 0 0 1 1 0 0 0 a", "error 150",
		"open 0 0", "call 0 2 0 2 0 0 0 0 0 0",
		"ingest 0 0 0 1 0 0 0 a", "error 150",
		"ingest 0 0 1 0 0 0 0 a", "error 150",
		"ingest 0 0 1 1 1 0 0 a", "error 150",
		"ingest 0 0 1 1 0 2 1 a", "error 150",
		"ingest 0 0" + strings.Repeat(" 1 1 0 0 0 a", 9), "error 150",
		"ingest 0 0" + strings.Repeat(" 1 1 0 0 0 a", 8), "call 1 3 0 0 0 1 7 0 0 0",
		"ingest 1 0 1 1 0 0 0 a", "error 150",
		"try 0 0", "error 150",
		"quit 0", "error 150",
		"quit 4", "error 150",
		"check", "check -1",
		"log", "log 1 1 1",
	})...)
}

// P17.2: a call that began and has not ended waits, whatever its step came to; what ends it later is ok.
func TestWaits(t *testing.T) {
	plays(t, with(three(), []string{
		"state 0", "state 2 1 1 1 0 1 voters 0 1 2",
		"state 1", "state 0 1 1 0 0 1 voters 0 1 2",
		"open 0 0", "call 0 waits", // MAppend 9 and 10
		"open 0 0", "error 150",
		"ingest 0 0 1 1 0 0 0 a", "error 150",
		"look 1 1 5", "call 1 waits", // it does not lead
		"expire 2 2 5", "call 2 waits",
		"try 2 2", "error 120",
		"try 2 3", "error 140",
		"try 3 0", "error 150",
		"quit 2", "ok",
		"quit 2", "error 150",
		"take 9", "ok",
		"log", "log 1",
		"take 11", "ok",
		"log", "log 1 1",
		"state 0", "state 2 1 1 2 0 2 voters 0 1 2",
		"quit 0", "error 150",
		"ingest 0 0 1 1 0 0 0 a", "call 3 waits",
		"try 1 0", "ok",
		"quit 1", "ok",
		"check", "check -1",
	})...)
}

// P17.2: a call begins though the disk of its node fails; the node runs no more.
func TestArmed(t *testing.T) {
	const done, open = "call 0 2 0 2 0 0 0 0 0 0", "open 0 0"
	for _, x := range []struct {
		arm  string
		call string
		last int
	}{
		{"arm 0 1 0 0", "call 0 waits", 1},
		{"arm 0 1 1 0", "call 0 waits", 2},
		{"arm 0 1 1 1", "call 0 waits", 1},
		{"arm 0 2 0 0", "call 0 waits", 1},
		{"arm 0 2 1 0", "call 0 waits", 2},
		{"arm 0 2 2 3", "call 0 waits", 1},
		{"arm 0 3 0 0", done, 2},
		{"arm 0 0 0 0", done, 2},
	} {
		l := append(alone(), x.arm, "ok", open, x.call)
		if x.call == done {
			plays(t, append(l, "state 0", "state 2 1 1 2 0 2 voters 0")...)
			continue
		}
		plays(t, append(l, "state 0", "error 140", "try 0 0", "error 140", "pack 0", "error 140", "start 0 3", "ok",
			"state 0", fmt.Sprintf("state 0 0 1 0 0 %d voters 0", x.last), "log", "log 1", "check", "check -1")...)
	}
}

// P17.2: a disk has room for all that a text brings: what is tried again and again is kept again and again.
func TestRoom(t *testing.T) {
	l := with(three(), []string{"open 0 0", "call 0 waits", "take 9", "ok", "take 11", "ok",
		"ingest 0 0" + strings.Repeat(" 999999999 999999999 999999998 999999999 999999999 "+strings.Repeat("x", 32), 8), "call 1 waits"})
	for range 1000 {
		l = append(l, "try 0 0", "ok")
	}
	plays(t, append(l, "state 0", "state 2 1 1 2 0 1003 voters 0 1 2")...)
}

// P17.2: what steps come to that are no calls.
func TestSteps(t *testing.T) {
	plays(t, with(three(), []string{
		"take 9", "error 130", "lose 9", "error 130", "double 9", "error 130", "take 0", "error 130",
		"tick 3 1", "error 150", "pack 3", "error 150", "crash 3 0 0", "error 150", "arm 3 1 1 1", "error 150", "start 3 1", "error 150", "roster 3 0", "error 150",
		"start 0 1", "error 140",
		"roster 0 3", "error 150", "roster 0 0 1 2", "error 101", "roster 1 0 1", "error 120", "roster 0 1 0", "error 100", "roster 0 1 2", "error 101",
		"tick 0 1", "ok", // MAppend 9 and 10
		"double 9", "ok", // 11
		"lose 10", "ok", "lose 10", "error 130", "take 10", "error 130",
		"take 9", "ok", "take 9", "error 130", "take 11", "ok", "take 11", "error 130",
		"state 1", "state 0 1 1 1 0 1 voters 0 1 2",
		"state 2", "state 0 1 1 0 0 1 voters 0 1 2",
		"pack 2", "error 51", "pack 1", "ok", "pack 1", "error 51",
		"state 1", "state 0 1 1 1 1 1 voters 0 1 2",
		"crash 1 0 0", "ok", "crash 1 0 0", "error 140", "tick 1 1", "error 140", "pack 1", "error 140", "arm 1 1 1 1", "error 140", "roster 1 0", "error 140",
		"state 1", "error 140",
		"start 1 7", "ok", "start 1 7", "error 140",
		"state 1", "state 0 0 1 1 1 1 voters 0 1 2",
	})...)
}

// P17.2: a node's voters are those that vote by its own entries; its base is a snapshot's.
func TestVoters(t *testing.T) {
	plays(t,
		"cluster 3 0", "ok", "tick 0 1", "ok", "tick 0 1", "ok", "tick 0 1", "ok",
		"state 0", "state 2 1 1 1 0 1 voters 0",
		"state 2", "state 0 0 0 0 0 0 voters 0",
		"open 1 0", "call 0 2 0 2 0 0 0 0 0 0",
		"roster 0 0 2", "ok", // entry 3, and MAppend 1
		"roster 0 0", "error 121",
		"state 0", "state 2 1 1 2 0 3 voters 0 2",
		"log", "log 1 1",
		"pack 0", "ok",
		"state 0", "state 2 1 1 2 2 3 voters 0 2",
		"log", "log 1 1",
		"lose 1", "ok", "tick 0 1", "ok", // MInstall 2: entries up to 2 are gone
		"take 2", "ok",
		"state 2", "state 0 1 1 2 2 2 voters 0",
		"take 3", "ok", "take 4", "ok", // MAppend of entry 3
		"state 2", "state 0 1 1 2 2 3 voters 0 2",
		"log", "log 1 1",
		"take 5", "ok",
		"state 0", "state 2 1 1 3 2 3 voters 0 2",
		"log", "log 1 1 1",
		"pack 0", "ok",
		"state 0", "state 2 1 1 3 3 3 voters 0 2",
		"retain 0 0 5", "call 1 waits",
		"check", "check -1",
	)
}

// P17.2: the entries of a log are of those terms in which they were put in; what was seen once stays, also when nobody has it committed any more, or only in a snapshot.
func TestLog(t *testing.T) {
	plays(t, with(three(), []string{
		"log", "log 1",
		"crash 1 0 0", "ok", "crash 2 0 0", "ok",
		"open 0 0", "call 0 waits", // entry 2; MAppend 9 and 10
		"log", "log 1",
		"crash 0 0 0", "ok",
		"log", "log 1",
		"lose 9", "ok", "lose 10", "ok",
		"start 1 1", "ok", "start 2 1", "ok",
		"log", "log 1",
		"state 1", "state 0 0 1 0 0 1 voters 0 1 2",
		"tick 1 1", "ok", // MVote 11 and 12
		"take 12", "ok", "take 13", "ok", // it leads, and has entry 2 of the term 2; MAppend 14 and 15
		"state 1", "state 2 2 2 0 0 2 voters 0 1 2",
		"log", "log 1",
		"take 15", "ok", "take 16", "ok",
		"log", "log 1 2",
		"state 1", "state 2 2 2 2 0 2 voters 0 1 2",
		"pack 1", "ok",
		"retain 3 1 9", "call 1 waits", // MAppend 17 and 18
		"log", "log 1 2",
		"take 18", "ok", "take 19", "ok",
		"log", "log 1 2 2",
		"crash 1 0 0", "ok", "crash 2 0 0", "ok",
		"log", "log 1 2 2",
		"start 0 1", "ok",
		"state 0", "state 0 0 1 0 0 2 voters 0 1 2",
		"log", "log 1 2 2",
		"check", "check -1",
	})...)
}

// P17.2: of a row of clusters, lines and errors nothing is left to what comes behind: clients of another cluster have no sessions, and wait for nothing.
func TestApart(t *testing.T) {
	plays(t, with(three(), []string{"open 0 0", "call 0 waits"}, three(), []string{
		"ingest 0 0 1 1 0 0 0 a", "error 150",
		"quit 0", "error 150",
		"open 0 0", "call 0 waits",
		"log", "log 1",
	}, alone(), []string{"log", "log 1", "open 0 0", "call 0 2 0 2 0 0 0 0 0 0"})...)
}
