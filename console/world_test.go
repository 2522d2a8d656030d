package console_test

import (
	"math/rand"
	"slices"
	"strings"
	"sync"
	"testing"

	"spandrel/api"
	"spandrel/console"
)

// silent is a line that says nothing.
func silent(r *rand.Rand) string {
	return []string{"", "#", "# cluster 1 0", "#cluster 1 0", "##", "#\t\r\x00\xff", "#" + strings.Repeat("x", r.Intn(2*api.MaxLine))}[r.Intn(7)]
}

// says tells whether a line says something.
func says(line string) bool { return line != "" && line[0] != '#' }

// P17.3: the report of a text's first lines is a beginning of its report, a line for each of them that says something.
func TestBeginnings(t *testing.T) {
	for seed := range int64(6) {
		r := rand.New(rand.NewSource(seed))
		lines := drawn(t, 100+seed, 3000).lines
		for range 20 {
			lines = slices.Insert(lines, r.Intn(len(lines)+1), silent(r))
		}
		whole, answers := report(t, text(lines...)), 0
		for n := range len(lines) + 1 {
			if n > 0 && says(lines[n-1]) {
				answers++
			}
			got := report(t, text(lines[:n]...)+strings.Repeat("\n", r.Intn(2)))
			if !strings.HasPrefix(whole, got) || strings.Count(got, "\n") != answers || got != "" && got[len(got)-1] != '\n' {
				t.Fatalf("%d: %d lines: %q", seed, n, got)
			}
			if n == len(lines) && got != whole {
				t.Fatal(seed, "all lines")
			}
		}
	}
}

// P17.4: lines that say nothing change no report, wherever they stand.
func TestSilent(t *testing.T) {
	for seed := range int64(20) {
		r := rand.New(rand.NewSource(seed))
		p := drawn(t, 200+seed, 5000)
		want := strings.Join(p.answers, "")
		for range 5 {
			lines := slices.Clone(p.lines)
			for range 20 {
				lines = slices.Insert(lines, r.Intn(len(lines)+1), silent(r))
			}
			if got := report(t, text(lines...)); got != want {
				t.Fatal(seed, "another report")
			}
		}
		lines := slices.DeleteFunc(slices.Clone(p.lines), func(s string) bool { return !says(s) })
		if got := report(t, text(lines...)); got != want {
			t.Fatal(seed, "another report, of lines that say something")
		}
	}
}

// P17.5: a text played again has the same report, whatever else was played, or is.
func TestAgain(t *testing.T) {
	var scripts, reports []string
	for seed := range int64(8) {
		scripts = append(scripts, text(drawn(t, 300+seed, 6000).lines...))
		reports = append(reports, report(t, scripts[seed]))
	}
	var all sync.WaitGroup
	for i, s := range scripts {
		for range 4 {
			all.Add(1)
			go func() {
				defer all.Done()
				if got, n, e := console.Run(s); got != reports[i] || n != 0 || e != api.OK {
					t.Error(i, n, e, "another report")
				}
			}()
		}
	}
	all.Wait()
}

// P17.6: check always answers check -1, behind each line of a text.
func TestExplained(t *testing.T) {
	ended := 0
	for seed := range int64(12) {
		var lines []string
		for _, line := range drawn(t, 400+seed, 8000).lines {
			lines = append(lines, line, "check")
		}
		answers := strings.Split(report(t, text(lines...)), "\n")
		for i, x := range answers {
			if i%2 == 1 && x != "check -1" {
				t.Fatalf("%d: behind %q: %q", seed, lines[i-1], x)
			}
			if strings.HasPrefix(x, "call ") && !strings.HasSuffix(x, " waits") {
				ended++
			}
		}
	}
	if ended < 200 {
		t.Error(ended)
	}
}

// DOC.md, example 3: an ingest's answer is lost with the node that led; the client tries at another one; the spans are there once.
func TestTriedAgain(t *testing.T) {
	plays(t, with(three(), []string{
		"open 0 0", "call 0 waits", "take 9", "ok", "take 10", "ok", "take 11", "ok", "take 12", "ok",
		"log", "log 1 1",
		"ingest 0 0 1 1 0 0 5 a", "call 1 waits", // MAppend 13 and 14
		"take 13", "ok", "take 14", "ok", // MAppended 15 and 16, which do not come
		"crash 0 0 0", "ok",
		"tick 1 1", "ok", "tick 1 1", "ok", "tick 1 1", "ok", "tick 1 1", "ok", // MVote 17 and 18
		"take 18", "ok", "take 19", "ok", // it leads: MAppend 20 and 21
		"take 21", "ok", "take 22", "ok",
		"log", "log 1 1 1 2",
		"look 1 1 1", "call 2 waits", // MAppend 23 and 24
		"try 0 1", "ok", // MAppend 25 and 26
		"take 24", "ok", "take 27", "ok",
		"take 26", "ok", "take 28", "ok",
		"log", "log 1 1 1 2 2",
		"try 0 1", "error 150", // it was told
		"try 1 1", "error 150",
		"check", "check -1",
	})...)
}
