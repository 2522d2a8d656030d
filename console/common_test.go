package console_test

import (
	"strings"
	"testing"

	"spandrel/api"
	"spandrel/console"
)

// text is some lines as one text.
func text(l ...string) string { return strings.Join(l, "\n") }

// report is what is told of a text that may be.
func report(t *testing.T, script string) string {
	t.Helper()
	if n, e := console.Check(script); n != 0 || e != api.OK {
		t.Fatalf("line %d: %d: %q", n, e, script)
	}
	got, n, e := console.Run(script)
	if n != 0 || e != api.OK {
		t.Fatalf("line %d: %d: %q", n, e, script)
	}
	return got
}

// plays fails unless each line of a text has the answer behind it; of a line that says nothing that is "".
func plays(t *testing.T, linesAndAnswers ...string) {
	t.Helper()
	var lines, answers []string
	for i := 0; i < len(linesAndAnswers); i += 2 {
		lines = append(lines, linesAndAnswers[i])
		if linesAndAnswers[i+1] != "" {
			answers = append(answers, linesAndAnswers[i+1]+"\n")
		}
	}
	got, want := report(t, text(lines...)), strings.Join(answers, "")
	if got == want {
		return
	}
	told := strings.SplitAfter(got, "\n")
	for i, x := range answers {
		if i >= len(told) || told[i] != x {
			t.Fatalf("answer %d: %q, not %q; all:\n%s", i, told[min(i, len(told)-1)], x, got)
		}
	}
	t.Fatalf("more than was asked for:\n%s", got)
}

// with is lines and answers one behind the other.
func with(l ...[]string) []string {
	var all []string
	for _, x := range l {
		all = append(all, x...)
	}
	return all
}

// alone is a cluster of one node, which leads.
func alone() []string {
	return []string{"cluster 1 0", "ok", "tick 0 3", "ok", "tick 0 3", "ok", "tick 0 3", "ok"}
}

// three is a cluster of three nodes: node 0 leads, and entry 1 is committed, as node 0 knows; no message is on the way, the next one is 9.
func three() []string {
	return []string{
		"cluster 3 0 1 2", "ok", "tick 0 3", "ok", "tick 0 3", "ok", "tick 0 9", "ok",
		"take 1", "ok", "take 2", "ok", // MVote to 1 and 2
		"take 3", "ok", "take 4", "ok", // MVoted: it leads
		"take 5", "ok", "take 6", "ok", // MAppend of entry 1
		"take 7", "ok", "take 8", "ok",
	}
}
