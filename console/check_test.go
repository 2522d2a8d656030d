package console_test

import (
	"fmt"
	"math/rand"
	"regexp"
	"slices"
	"strings"
	"testing"

	"spandrel/api"
	"spandrel/console"
)

// checks fails unless a text's first line that is none is the n-th, 0: it has none; and unless Run tells the same.
func checks(t *testing.T, script string, n int) {
	t.Helper()
	want := api.OK
	if n != 0 {
		want = api.ErrLine
	}
	if len(script) > api.MaxText {
		n, want = 0, api.ErrLong
	}
	if got, e := console.Check(script); got != n || e != want {
		t.Fatalf("%.200q: line %d: %d, not line %d: %d", script, got, e, n, want)
	}
	told, got, e := console.Run(script)
	if got != n || e != want || e != api.OK && told != "" {
		t.Fatalf("%.200q: Run tells %.200q, line %d: %d, not line %d: %d", script, told, got, e, n, want)
	}
}

// right is a line of each word, each number another one.
var right = []string{
	"cluster 3 0", "cluster 3 0 1 2", "open 1 2", "ingest 1 2 3 4 5 6 7 name", "ingest 1 2 3 4 5 6 7 name 8 9 10 11 12 other",
	"expire 1 2 3", "retain 1 2 3", "look 1 2 3", "try 1 2", "quit 1", "tick 1 2", "start 1 2", "take 1", "lose 1", "double 1",
	"crash 1 2 3", "arm 1 2 3 4", "pack 1", "roster 1 2", "roster 1 2 3 4", "state 1", "log", "check",
}

// goes tells whether a line may have more numbers behind it.
func goes(line string) bool {
	return strings.HasPrefix(line, "cluster") || strings.HasPrefix(line, "roster")
}

// P17.1: each word with what the table says behind it, and with less, more, or something else.
func TestCheckWords(t *testing.T) {
	for _, line := range right {
		checks(t, line, 0)
		l := strings.Split(line, " ")
		for cut := 1; cut < len(l); cut++ {
			n := 1
			if goes(line) && cut > 2 || l[0] == "ingest" && cut == 9 {
				n = 0
			}
			checks(t, text(l[:cut]...), 1)
			checks(t, strings.Join(l[:cut], " "), n)
		}
		for many := 1; many <= 7 && !goes(line); many++ {
			// Of an ingest six parts more are a span, whose name is 5.
			n := 1
			if l[0] == "ingest" && many == 6 {
				n = 0
			}
			checks(t, line+strings.Repeat(" 5", many), n)
		}
		for i := 1; i < len(l); i++ {
			if l[0] == "ingest" && (i == 8 || i == 14) {
				continue
			}
			for _, good := range []string{"0", "7", "10", "100", "999999999", "123456789", "100000000"} {
				checks(t, strings.Join(slices.Replace(slices.Clone(l), i, i+1, good), " "), 0)
			}
			for _, bad := range []string{"", " ", "00", "01", "007", "-1", "-0", "+1", "1000000000", "0000000000", "0123456789", "99999999999999999999", "x", "1x", "x1", "1.", ".1", "1.0", "1e3", "0x1", "1_0", "0b1", "1,", "\t1", "1\t", "1\r", "\x00", "1\x00", "٣", "１", "1\xff", "/", ":", "1/", "1:", "name", "0 ", " 0", "\v", "\u00a0"} {
				checks(t, strings.Join(slices.Replace(slices.Clone(l), i, i+1, bad), " "), 1)
			}
		}
	}
}

// P17.1: words that are none, and blanks that part nothing.
func TestCheckNoWord(t *testing.T) {
	for _, line := range right {
		word, rest, _ := strings.Cut(line, " ")
		if rest != "" {
			rest = " " + rest
		}
		for _, bad := range []string{"x", "", " ", strings.ToUpper(word), strings.ToUpper(word[:1]) + word[1:], word + "s", word[1:], word[:len(word)-1], word + word, "\t" + word, word + "\t", word + "\r", "\ufeff" + word, " " + word, word + " ", "x " + word, word + "#", "-" + word, word + ","} {
			checks(t, bad+rest, min(1, len(bad+rest)))
		}
		for _, bad := range []string{line + " ", line + "  ", " " + line, strings.Replace(line, " ", "  ", 1) + " ", strings.ReplaceAll(line, " ", "\t") + "\t", line + " #", line + "\r", line + "\x00"} {
			checks(t, bad, 1)
		}
	}
	for _, bad := range []string{" ", "  ", "\t", "\r", "\x00", "0", "1 cluster 1 0", " #", "x#", "\t#", "//", ";", "steps", "nodes 3", "\xff", "\xef\xbb\xbf"} {
		checks(t, bad, 1)
	}
}

// P17.1: a name is 1 to 32 bytes from 33 to 126.
func TestCheckNames(t *testing.T) {
	for b := range 256 {
		if b == '\n' {
			continue
		}
		for _, name := range []string{string([]byte{byte(b)}), "a" + string([]byte{byte(b)}), string([]byte{byte(b)}) + "a"} {
			n := 1
			if b >= 33 && b <= 126 {
				n = 0
			}
			checks(t, "ingest 0 0 1 1 0 0 0 "+name, n)
			checks(t, "ingest 0 0 1 1 0 0 0 "+name+" 1 2 0 0 0 a", n)
			checks(t, "ingest 0 0 1 1 0 0 0 a 1 2 0 0 0 "+name, n)
		}
	}
	for many, n := range map[int]int{0: 1, 1: 0, 2: 0, api.MaxName - 1: 0, api.MaxName: 0, api.MaxName + 1: 1, 100: 1} {
		name := strings.Repeat("~", many)
		checks(t, "ingest 0 0 1 1 0 0 0 "+name, n)
		checks(t, "ingest 0 0 1 1 0 0 0 a 1 1 0 0 0 "+name, n)
	}
	for _, name := range []string{"#", "7", "-1", "ingest", "!", "~", "00"} {
		checks(t, "ingest 0 0 1 1 0 0 0 "+name, 0)
	}
	checks(t, "ingest 0 0 1 1 0 0 0 ä", 1)
}

// P17.1: what a step refuses may stand in a text: numbers are of any size, and spans and voters as many as a line has room for.
func TestCheckAnySize(t *testing.T) {
	checks(t, text("cluster 999999999 9 9 8", "cluster 0 0", "roster 0"+strings.Repeat(" 5", 500), "cluster 1"+strings.Repeat(" 0", 500), "open 999999999 999999999", "look 0 0 0", "take 0", "tick 0 0",
		"ingest 0 0"+strings.Repeat(" 0 0 0 9 0 x", 80)), 0)
}

// P17.1: a line has at most 1024 bytes, but one that begins with # has any; a text has at most 2^15.
func TestCheckLimits(t *testing.T) {
	long := func(n int) string {
		line := "roster 1" + strings.Repeat(" 5", 507) // 8 and 1014 bytes
		return line + strings.Repeat("5", n-len(line))
	}
	if len(long(1022)) != 1022 || len(long(1024)) != 1024 {
		t.Fatal("another length")
	}
	checks(t, long(1023), 0)
	checks(t, long(api.MaxLine), 0)
	checks(t, long(api.MaxLine+1), 1)
	checks(t, text("log", long(api.MaxLine), long(api.MaxLine+1)), 3)
	checks(t, "#"+strings.Repeat("x", api.MaxLine-1), 0)
	checks(t, "#"+strings.Repeat("x", api.MaxLine), 0)
	checks(t, "#"+strings.Repeat("\xff", api.MaxText-1), 0)
	checks(t, "#"+strings.Repeat("x", api.MaxText), 0)
	checks(t, strings.Repeat("x", api.MaxText), 1)
	checks(t, strings.Repeat("x", api.MaxText+1), 0)
	checks(t, strings.Repeat("\n", api.MaxText), 0)
	checks(t, strings.Repeat("\n", api.MaxText+1), 0)
	checks(t, strings.Repeat("log\n", api.MaxText/4), 0)
	checks(t, strings.Repeat("\n", api.MaxText-1)+"x", api.MaxText)
	checks(t, strings.Repeat("\n", api.MaxText)+"x", 0)
	checks(t, "x\n"+strings.Repeat("\n", api.MaxText), 0)
	checks(t, strings.Repeat("check\n", 1<<20), 0)
}

// P17.1: the first line that is none, all lines counted, those that say nothing too.
func TestCheckPlace(t *testing.T) {
	for want, script := range map[string]int{
		"":                                 0,
		"\n":                               0,
		"#":                                0,
		"# x\n\n#y":                        0,
		"log\n":                            0,
		"\nlog":                            0,
		"x":                                1,
		"x\n":                              1,
		"\nx":                              2,
		"\n\n\nx\ny":                       4,
		"log\nx\nlog":                      2,
		"log\nlog \nlog":                   2,
		"# one\n\nlog\n#\n check\nx\ny":    5,
		"log\n#x\n\nlook 0 0 00\nquit -1":  4,
		"log\r\nlog\r\n":                   1,
		"log\n\r\nlog":                     2,
		"cluster 1\n0":                     1,
		"check\ncluster 1 0\nopen 0 0\nno": 4,
		"ingest 0 0 1 1 0 0 0\nname":       1,
		"log\n\x00":                        2,
		"log\n\t#":                         2,
		"\n\n#\n#x\n \nlog\nx":             5,
	} {
		checks(t, want, script)
	}
}

// may is the table's words, told by patterns.
var may = func() *regexp.Regexp {
	n, span := ` (0|[1-9][0-9]{0,8})`, ``
	for range 5 {
		span += n
	}
	span += ` [!-~]{1,32}`
	return regexp.MustCompile(`\A((cluster|roster)` + n + `(` + n + `)+|(open|try|tick|start)` + n + n + `|(expire|retain|look|crash)` + n + n + n +
		`|(quit|take|lose|double|pack|state)` + n + `|arm` + n + n + n + n + `|ingest` + n + n + `(` + span + `)+|log|check)\z`)
}()

// plainCheck is P17.1, told by patterns.
func plainCheck(script string) int {
	for i, line := range strings.Split(script, "\n") {
		if line != "" && line[0] != '#' && (len(line) > 1024 || !may.MatchString(line)) {
			return i + 1
		}
	}
	return 0
}

// P17.1: whatever bytes are turned, put in or left out of a text, it is what the patterns say; and Run ends.
func TestCheckTurned(t *testing.T) {
	count := map[bool]int{}
	for seed := range int64(6000) {
		r := rand.New(rand.NewSource(seed))
		var lines []string
		for range 1 + r.Intn(4) {
			lines = append(lines, right[r.Intn(len(right))])
		}
		b := []byte(text(lines...))
		for range r.Intn(3) {
			at, some := r.Intn(len(b)), " \n0123456789#abcd\t~\xff\x7f-"
			x := some[r.Intn(len(some))]
			switch r.Intn(4) {
			case 0:
				b[at] = x
			case 1:
				b = slices.Insert(b, at, x)
			case 2:
				b = slices.Insert(b, at, b[r.Intn(at+1):at]...)
			case 3:
				b = slices.Delete(b, at, min(len(b), at+1+r.Intn(3)))
			}
			if len(b) == 0 {
				break
			}
		}
		n := plainCheck(string(b))
		checks(t, string(b), n)
		count[n == 0]++
	}
	if count[true] < 1500 || count[false] < 1500 {
		t.Error(count)
	}
}

// DOC.md, Ends: bytes of any kind.
func TestCheckBytes(t *testing.T) {
	for seed := range int64(500) {
		r := rand.New(rand.NewSource(seed))
		b := make([]byte, r.Intn(300))
		for i := range b {
			b[i] = byte(r.Intn(256))
		}
		checks(t, string(b), plainCheck(string(b)))
	}
	for _, x := range []int{0, 1, 2, 8, 9, 10} {
		line := fmt.Sprintf("ingest 0 0%s", strings.Repeat(" 1 1 0 0 0 a", x))
		checks(t, line, plainCheck(line))
	}
}
