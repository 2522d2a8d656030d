package machine_test

import (
	"bytes"
	"math"
	"math/rand"
	"reflect"
	"slices"
	"testing"

	"spandrel/api"
	"spandrel/machine"
	"spandrel/near"
	"spandrel/span"
	"spandrel/wire"
)

// most is the greatest number of an entry, a session, a span.
const most = 1 << 40

// at is a span of a trace, that ends at a time.
func at(trace, id, parent, end int) api.Span {
	return api.Span{Trace: trace, ID: id, Parent: parent, End: end, Name: "work"}
}

// widest is a span that has the most bytes.
func widest(i int) api.Span {
	return api.Span{Trace: most, ID: most - i, Parent: most - 20, End: most, Name: "32-bytes-of-a-name-32-bytes-of-a"}
}

// ingest is a command of a session that puts spans in.
func ingest(session, seq int, l ...api.Span) api.Command {
	return api.Command{Kind: api.CIngest, Session: session, Seq: seq, Spans: l}
}

// roster is a command that names voters.
func roster(l ...int) api.Command { return api.Command{Kind: api.CRoster, Voters: l} }

// expire and retain are commands that end what rested from before.
func expire(at int) api.Command { return api.Command{Kind: api.CExpire, At: at} }

func retain(at int) api.Command { return api.Command{Kind: api.CRetain, At: at} }

// may is commands that may be, by what is at the edge.
func may() map[string]api.Command {
	return map[string]api.Command{
		"none":                      {},
		"none with empty lists":     {Spans: []api.Span{}, Voters: []int{}},
		"open":                      {Kind: api.COpen},
		"open with empty lists":     {Kind: api.COpen, Spans: []api.Span{}, Voters: []int{}},
		"ingest":                    ingest(1, 1, at(1, 1, 0, 1)),
		"ingest of empty voters":    {Kind: api.CIngest, Session: 1, Seq: 1, Spans: []api.Span{at(1, 1, 0, 1)}, Voters: []int{}},
		"ingest of the last ones":   ingest(most, most, widest(0)),
		"ingest of many":            ingest(2, 3, at(1, 1, 0, 1), at(1, 1, 0, 1), at(2, 1, 0, 1), at(1, 2, 1, 1), at(9, 1, 0, 1), at(8, 1, 0, 1), at(7, 1, 0, 1), at(6, 1, 0, 1)),
		"ingest of the most bytes":  ingest(most, most, widest(0), widest(1), widest(2), widest(3), widest(4), widest(5), widest(6), widest(7)),
		"expire from 0":             expire(0),
		"expire from the last":      expire(most),
		"retain from 0":             retain(0),
		"retain from the last":      retain(most),
		"retain from behind it":     retain(most + 1),
		"roster of the first":       roster(0),
		"roster of the last":        roster(6),
		"roster of some":            roster(1, 3, 4),
		"roster of all":             roster(0, 1, 2, 3, 4, 5, 6),
		"roster with an empty list": {Kind: api.CRoster, Voters: []int{2}, Spans: []api.Span{}},
	}
}

// mayNot is commands that may not be, by what is wrong.
func mayNot() map[string]api.Command {
	some := at(1, 1, 0, 1)
	return map[string]api.Command{
		"no kind":                     {Kind: 6},
		"a kind below all":            {Kind: -1},
		"a kind far above":            {Kind: math.MaxInt},
		"a kind far below":            {Kind: math.MinInt},
		"none of a session":           {Session: 1},
		"none that counts":            {Seq: 1},
		"none at a time":              {At: 1},
		"none at a time below":        {At: -1},
		"none with spans":             {Spans: []api.Span{{}}},
		"none with voters":            {Voters: []int{0}},
		"open of a session":           {Kind: api.COpen, Session: 1},
		"open that counts":            {Kind: api.COpen, Seq: -1},
		"open at a time":              {Kind: api.COpen, At: 1},
		"open with spans":             {Kind: api.COpen, Spans: []api.Span{some}},
		"open with voters":            {Kind: api.COpen, Voters: []int{1}},
		"ingest of session 0":         ingest(0, 1, some),
		"ingest of session -1":        ingest(-1, 1, some),
		"ingest of too great a one":   ingest(most+1, 1, some),
		"ingest of seq 0":             ingest(1, 0, some),
		"ingest of seq -1":            ingest(1, -1, some),
		"ingest of too great a seq":   ingest(1, most+1, some),
		"ingest of nothing":           ingest(1, 1),
		"ingest of nine":              ingest(1, 1, slices.Repeat([]api.Span{some}, 9)...),
		"ingest of a wrong span":      ingest(1, 1, some, at(0, 1, 0, 1)),
		"ingest of a zero span":       ingest(1, 1, api.Span{}),
		"ingest at a time":            {Kind: api.CIngest, Session: 1, Seq: 1, At: 1, Spans: []api.Span{some}},
		"ingest with voters":          {Kind: api.CIngest, Session: 1, Seq: 1, Spans: []api.Span{some}, Voters: []int{0}},
		"expire from below":           expire(-1),
		"expire from behind the last": expire(most + 1),
		"expire of a session":         {Kind: api.CExpire, Session: 1, At: 1},
		"expire that counts":          {Kind: api.CExpire, Seq: 1, At: 1},
		"expire with spans":           {Kind: api.CExpire, At: 1, Spans: []api.Span{some}},
		"expire with voters":          {Kind: api.CExpire, At: 1, Voters: []int{0}},
		"retain from below":           retain(-1),
		"retain from far below":       retain(math.MinInt),
		"retain from far behind":      retain(most + 2),
		"retain from the last of all": retain(math.MaxInt),
		"retain of a session":         {Kind: api.CRetain, Session: 1},
		"retain that counts":          {Kind: api.CRetain, Seq: 1},
		"retain with spans":           {Kind: api.CRetain, Spans: []api.Span{some}},
		"retain with voters":          {Kind: api.CRetain, Voters: []int{0}},
		"roster of nobody":            roster(),
		"roster of an empty list":     {Kind: api.CRoster, Voters: []int{}},
		"roster of -1":                roster(-1, 0),
		"roster of 7":                 roster(1, 7),
		"roster that falls":           roster(1, 0),
		"roster of one twice":         roster(1, 1),
		"roster of many":              roster(slices.Repeat([]int{1}, 1000)...),
		"roster of a session":         {Kind: api.CRoster, Session: 1, Voters: []int{0}},
		"roster that counts":          {Kind: api.CRoster, Seq: 1, Voters: []int{0}},
		"roster at a time":            {Kind: api.CRoster, At: 1, Voters: []int{0}},
		"roster with spans":           {Kind: api.CRoster, Spans: []api.Span{some}, Voters: []int{0}},
	}
}

// own is a command without empty lists.
func own(c api.Command) api.Command {
	c.Spans = append([]api.Span(nil), c.Spans...)
	c.Voters = append([]int(nil), c.Voters...)
	return c
}

// P9.1, P9.4: commands that may be have bytes, of which they are the command.
func TestCommands(t *testing.T) {
	for name, c := range may() {
		b, e := machine.Put(c)
		if e != api.OK || machine.Check(c) != api.OK {
			t.Fatal(name, e, machine.Check(c))
		}
		if got, e := machine.Get(b); e != api.OK || !reflect.DeepEqual(got, own(c)) {
			t.Errorf("%s: %+v %v", name, got, e)
		}
		if len(b) > api.MaxData {
			t.Error(name, len(b))
		}
	}
}

// P9.1: commands that may not be have none.
func TestNoCommands(t *testing.T) {
	for name, c := range mayNot() {
		if b, e := machine.Put(c); b != nil || e != api.ErrCommand || machine.Check(c) != api.ErrCommand {
			t.Error(name, b, e, machine.Check(c))
		}
	}
}

// P9.1: the bytes of commands, spelt out.
func TestPut(t *testing.T) {
	for _, x := range []struct {
		c api.Command
		b []byte
	}{
		{api.Command{}, []byte{0}},
		{api.Command{Kind: api.COpen}, []byte{1}},
		{ingest(300, 2, api.Span{Trace: 1, ID: 2, Start: 5, End: 7, Name: "a"}), []byte{2, 0x82, 0x2c, 2, 8, 1, 1, 2, 0, 5, 2, 1, 'a'}},
		{expire(0), []byte{3, 0}},
		{expire(128), []byte{3, 0x81, 0}},
		{retain(5), []byte{4, 5}},
		{retain(most + 1), []byte{4, 0xa0, 0x80, 0x80, 0x80, 0x80, 1}},
		{roster(6), []byte{5, 1, 6}},
		{roster(0, 2, 5), []byte{5, 3, 0, 2, 5}},
	} {
		if b, e := machine.Put(x.c); e != api.OK || !bytes.Equal(b, x.b) {
			t.Error(x, b, e)
		}
		if c, e := machine.Get(x.b); e != api.OK || !reflect.DeepEqual(c, x.c) {
			t.Error(x, c, e)
		}
	}
}

// P9.1: bytes that are no command's.
func TestGetRefuses(t *testing.T) {
	spans := func(l ...api.Span) []byte {
		b, _ := span.Put(l...)
		return wire.Text(nil, string(b))
	}
	nine := slices.Repeat([]api.Span{at(1, 1, 0, 1)}, 9)
	for name, b := range map[string][]byte{
		"nothing":                   nil,
		"empty":                     {},
		"no kind":                   {6},
		"none and further bytes":    {0, 0},
		"open and further bytes":    {1, 1},
		"a long kind":               {0x80, 1},
		"no number":                 bytes.Repeat([]byte{0xff}, 12),
		"ingest of nothing":         {2},
		"ingest of no spans":        wire.Join([]byte{2, 1, 1}, spans()),
		"ingest of nine":            wire.Join([]byte{2, 1, 1}, spans(nine...)),
		"ingest of session 0":       wire.Join([]byte{2, 0, 1}, spans(nine[0])),
		"ingest of seq 0":           wire.Join([]byte{2, 1, 0}, spans(nine[0])),
		"ingest of too great a one": wire.Join([]byte{2}, wire.Number(nil, most+1), []byte{1}, spans(nine[0])),
		"ingest and further bytes":  wire.Join([]byte{2, 1, 1}, spans(nine[0]), []byte{0}),
		"ingest of other bytes":     {2, 1, 1, 2, 1, 1},
		"ingest that is cut off":    {2, 1, 1, 8, 1, 1, 2, 0, 5, 2, 1},
		"expire from nothing":       {3},
		"expire of two":             {3, 1, 1},
		"expire from too far":       wire.Number([]byte{3}, most+1),
		"expire in a long form":     {3, 0x80, 1},
		"retain from nothing":       {4},
		"retain from too far":       wire.Number([]byte{4}, most+2),
		"roster of nothing":         {5},
		"roster of nobody":          {5, 0},
		"roster of too few":         {5, 2, 1},
		"roster of too many":        {5, 1, 1, 2},
		"roster of 7":               {5, 2, 1, 7},
		"roster that falls":         {5, 2, 2, 1},
		"roster of one twice":       {5, 2, 2, 2},
		"roster of eight":           {5, 8, 0, 1, 2, 3, 4, 5, 6, 7},
		"roster of eight, seven":    {5, 8, 0, 1, 2, 3, 4, 5, 6},
		"roster of a huge number":   wire.Join([]byte{5}, wire.Number(nil, math.MaxInt), []byte{0, 1, 2, 3, 4, 5, 6}),
	} {
		if c, e := machine.Get(b); e != api.ErrCommand || !reflect.DeepEqual(c, api.Command{}) {
			t.Error(name, c, e)
		}
	}
}

// P9.1, P9.4: bytes that are cut off, or have another byte or one more, are none, or another command's own.
func TestGetTurned(t *testing.T) {
	for name, c := range may() {
		b, _ := machine.Put(c)
		for _, stray := range near.Strays(b, api.ErrCommand, again) {
			t.Error(name, stray)
		}
	}
}

// P9.4: Put of Get is the bytes, whatever they are.
func TestGetRandom(t *testing.T) {
	r := rand.New(rand.NewSource(9))
	for range 50000 {
		b := make([]byte, r.Intn(9))
		for i := range b {
			b[i] = byte(r.Intn(8))
		}
		if put, e := again(b); e != api.ErrCommand && (e != api.OK || !bytes.Equal(put, b)) {
			t.Error(b, put, e)
		}
	}
}

// again is the bytes of the command that bytes tell.
func again(b []byte) ([]byte, api.Errno) {
	c, e := machine.Get(b)
	if e != api.OK {
		return nil, e
	}
	return machine.Put(c)
}

// DOC.md, Memory: what is handed in is neither changed nor kept, and answers are new.
func TestCommandMemory(t *testing.T) {
	for _, c := range []api.Command{ingest(1, 1, at(1, 1, 0, 1), at(1, 2, 1, 1)), roster(1, 2)} {
		given := own(c)
		b, _ := machine.Put(c)
		got, _ := machine.Get(b)
		if !reflect.DeepEqual(c, given) {
			t.Fatal(c)
		}
		clear(b[:cap(b)])
		clear(c.Spans)
		clear(c.Voters)
		if !reflect.DeepEqual(got, given) {
			t.Error(got, given)
		}
	}
}
