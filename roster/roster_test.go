package roster_test

import (
	"math"
	"math/bits"
	"math/rand"
	"slices"
	"testing"

	"spandrel/api"
	"spandrel/roster"
)

// want fails unless an error is the one that is to come.
func want(t *testing.T, e, right api.Errno) {
	t.Helper()
	if e != right {
		t.Fatal(e, "not", right)
	}
}

// list is the numbers of the bits of a set, rising.
func list(set int) []int {
	var l []int
	for n := range bits.Len(uint(set)) {
		if set>>n&1 == 1 {
			l = append(l, n)
		}
	}
	return l
}

// sets is how many sets of nodes there are; that of number 0 has nobody.
const sets = 1 << api.MaxNodes

// wrong is lists that can't be voters.
func wrong() [][]int {
	return [][]int{
		nil, {}, {-1}, {7}, {math.MinInt}, {math.MaxInt}, {0, 0}, {1, 0}, {0, 2, 1}, {0, 1, 1}, {0, 1, 7}, {-1, 0, 1}, {6, 7},
		{0, 1, 2, 3, 4, 5, 6, 7}, {6, 5, 4, 3, 2, 1, 0}, {0, 1, 2, 3, 4, 5, 6, 6}, {0, math.MaxInt}, make([]int, 100_000),
	}
}

// roomy is a list with further numbers in the room behind its end.
func roomy(l []int) []int {
	all := append(slices.Clone(l), 91, 92, 93)
	return all[:len(l)]
}

// untouched fails unless a roomy list is as it was made.
func untouched(t *testing.T, l, was []int) {
	t.Helper()
	if !slices.Equal(l[:len(was)+3], append(slices.Clone(was), 91, 92, 93)) {
		t.Fatal(l[:len(was)+3], "not", was)
	}
}

// The chapter's example.
func TestExample(t *testing.T) {
	if !roster.Majority([]int{0, 1, 2}, 1, 2) || roster.Majority([]int{0, 1, 2}, 1, 1, 5) {
		t.Error("majority")
	}
	want(t, roster.May([]int{0, 1, 2}, []int{0, 1, 2, 5}), api.OK)
	want(t, roster.May([]int{0, 1, 2}, []int{0, 1}), api.OK)
	want(t, roster.May([]int{0, 1, 2}, []int{0, 1, 3}), api.ErrChange)
	want(t, roster.May([]int{0}, nil), api.ErrRoster)
	if n := roster.Agreed([]int{0, 1, 2, 4}, 7, 3, 5, 9, 4); n != 4 {
		t.Error(n)
	}
}

// P10.1: voters are some of 0 to 6, rising, and nobody else.
func TestCheck(t *testing.T) {
	for set := 1; set < sets; set++ {
		want(t, roster.Check(list(set)...), api.OK)
	}
	for _, l := range wrong() {
		want(t, roster.Check(l...), api.ErrRoster)
	}
	for set := range sets {
		for _, n := range []int{-1, 7, math.MinInt, math.MaxInt} {
			want(t, roster.Check(append(list(set), n)...), api.ErrRoster)
			want(t, roster.Check(append([]int{n}, list(set)...)...), api.ErrRoster)
		}
	}
}

// P10.1: whether somebody is in a list, whatever that is.
func TestVotes(t *testing.T) {
	for set := range sets {
		for n := -2; n < 12; n++ {
			if roster.Votes(list(set), n) != (n >= 0 && set>>n&1 == 1) {
				t.Fatal(set, n)
			}
		}
	}
	odd := []int{9, -3, 9, 0, math.MaxInt, math.MinInt}
	for _, n := range odd {
		if !roster.Votes(odd, n) {
			t.Error(n)
		}
	}
	for _, n := range []int{1, -1, 3, 8, math.MaxInt - 1} {
		if roster.Votes(odd, n) || roster.Votes(nil, n) || roster.Votes([]int{}, n) {
			t.Error(n)
		}
	}
}

// P10.1: of all voters and all that may be among them; in any order, twice, and with others.
func TestMajority(t *testing.T) {
	for set := 1; set < sets; set++ {
		for some := range sets {
			right := 2*bits.OnesCount(uint(set&some)) > bits.OnesCount(uint(set))
			l := list(some)
			turned := append(append([]int{9, -1}, l...), l...)
			slices.Reverse(turned)
			if roster.Majority(list(set), l...) != right || roster.Majority(list(set), turned...) != right {
				t.Fatal(list(set), l, right)
			}
		}
	}
	for _, l := range wrong() {
		if roster.Majority(l, 0, 1, 2, 3, 4, 5, 6, 7, -1, math.MaxInt, math.MinInt) || roster.Majority(l) {
			t.Error(l)
		}
	}
}

// P10.2: of all voters and all others that they may be followed by.
func TestMay(t *testing.T) {
	for old := 1; old < sets; old++ {
		for next := 1; next < sets; next++ {
			right := api.ErrChange
			if bits.OnesCount(uint(old^next)) == 1 {
				right = api.OK
			}
			want(t, roster.May(list(old), list(next)), right)
		}
	}
}

// P10.2: voters that may not be are told of ahead of a change that may not be.
func TestMayRefuses(t *testing.T) {
	for _, l := range wrong() {
		for set := 1; set < sets; set++ {
			want(t, roster.May(l, list(set)), api.ErrRoster)
			want(t, roster.May(list(set), l), api.ErrRoster)
		}
		for _, other := range wrong() {
			want(t, roster.May(l, other), api.ErrRoster)
		}
	}
}

// P10.2: with one more, rising; with one less.
func TestJoinAndLeave(t *testing.T) {
	for set := range sets {
		for n := range 9 {
			if l := roster.Join(list(set), n); !slices.Equal(l, list(set|1<<n)) {
				t.Fatal(list(set), n, l)
			}
			if l := roster.Leave(list(set), n); !slices.Equal(l, list(set&^(1<<n))) {
				t.Fatal(list(set), n, l)
			}
		}
	}
}

// P10.2: of lists that can't be voters: who is there already leaves a list as it is, all that are one number leave.
func TestJoinAndLeaveOthers(t *testing.T) {
	for _, x := range []struct {
		l           []int
		n           int
		join, leave []int
	}{
		{nil, 3, []int{3}, nil},
		{[]int{}, -3, []int{-3}, nil},
		{[]int{3}, 3, []int{3}, nil},
		{[]int{3, 3}, 3, []int{3, 3}, nil},
		{[]int{5, 1}, 1, []int{5, 1}, []int{5}},
		{[]int{5, 1, 5}, 5, []int{5, 1, 5}, []int{1}},
		{[]int{5, 1}, 3, []int{1, 3, 5}, []int{5, 1}},
		{[]int{5, 5}, 9, []int{5, 5, 9}, []int{5, 5}},
		{[]int{0, 1}, math.MinInt, []int{math.MinInt, 0, 1}, []int{0, 1}},
		{[]int{0, 1}, math.MaxInt, []int{0, 1, math.MaxInt}, []int{0, 1}},
	} {
		if l := roster.Join(x.l, x.n); !slices.Equal(l, x.join) {
			t.Error(x, l)
		}
		if l := roster.Leave(x.l, x.n); !slices.Equal(l, x.leave) {
			t.Error(x, l)
		}
	}
}

// P10.2: what is handed in is not changed, the room behind it neither, and shares nothing with an answer.
func TestOwnMemory(t *testing.T) {
	for _, l := range [][]int{{0, 2, 4}, {4, 0, 2}, {2}, nil} {
		for _, n := range []int{0, 1, 2, 6} {
			given := roomy(l)
			join, leave := roster.Join(given, n), roster.Leave(given, n)
			untouched(t, given, l)
			for _, answer := range [][]int{join, leave} {
				answer = answer[:cap(answer)]
				for i := range answer {
					answer[i] = -9
				}
				untouched(t, given, l)
			}
		}
	}
	voters, some := roomy([]int{0, 1, 2}), roomy([]int{5, 3, 4})
	roster.Check(some...)
	roster.Votes(some, 3)
	roster.Majority(voters, some...)
	roster.Agreed(voters, some...)
	roster.May(voters, some)
	roster.May(some, voters)
	untouched(t, voters, []int{0, 1, 2})
	untouched(t, some, []int{5, 3, 4})
}

// P10.3: the edges that the words name.
func TestAgreed(t *testing.T) {
	for _, x := range []struct {
		voters, reached []int
		right           int
	}{
		{[]int{0}, nil, 0},
		{[]int{0}, []int{}, 0},
		{[]int{0}, []int{5, 9}, 5},
		{[]int{0}, []int{-5, 9}, 0},
		{[]int{0, 1}, []int{5, 9}, 5},
		{[]int{0, 1}, []int{5}, 0},
		{[]int{0, 1, 2}, []int{5, 9}, 5},
		{[]int{0, 1, 2}, []int{5, -9, 7}, 5},
		{[]int{0, 1, 2}, []int{-5, -9, 7}, 0},
		{[]int{1, 3, 5}, []int{9, 1, 9, 2, 9, 3, 9}, 2},
		{[]int{4, 5, 6}, []int{9, 9, 9}, 0},
		{[]int{0, 1, 2, 3, 4}, []int{5, 4, 3, 2, 1}, 3},
		{[]int{0, 1, 2, 3, 4, 5}, []int{6, 5, 4, 3, 2, 1}, 3},
		{[]int{0, 1, 2, 3, 4, 5, 6}, []int{7, 6, 5, 4, 3, 2, 1, 99, 99, 99}, 4},
		{[]int{0, 1, 2}, []int{math.MaxInt, math.MinInt, math.MaxInt}, math.MaxInt},
	} {
		if n := roster.Agreed(x.voters, x.reached...); n != x.right {
			t.Error(x, n)
		}
	}
	for _, l := range wrong() {
		if n := roster.Agreed(l, 9, 9, 9, 9, 9, 9, 9, 9, 9); n != 0 {
			t.Error(l, n)
		}
	}
}

// reachedBy is who has reached a number at least.
func reachedBy(reached []int, number int) []int {
	var l []int
	for n := range api.MaxNodes {
		if n < len(reached) && reached[n] >= number || number <= 0 {
			l = append(l, n)
		}
	}
	return l
}

// P10.3, P10.5: a majority has reached it, and none more; it does not fall, when somebody reaches more.
func TestAgreedRandom(t *testing.T) {
	r := rand.New(rand.NewSource(1))
	for range 20_000 {
		voters := list(1 + r.Intn(sets-1))
		reached := make([]int, r.Intn(10))
		for i := range reached {
			reached[i] = r.Intn(12) - 3
		}
		n := roster.Agreed(voters, reached...)
		if !roster.Majority(voters, reachedBy(reached, n)...) || roster.Majority(voters, reachedBy(reached, n+1)...) || n < 0 {
			t.Fatal(voters, reached, n)
		}
		if len(reached) > 0 {
			reached[r.Intn(len(reached))] += 1 + r.Intn(4)
		}
		if more := roster.Agreed(voters, reached...); more < n {
			t.Fatal(voters, reached, n, more)
		}
	}
}

// P10.4: two majorities of the same voters, or of such as may follow one another, have somebody in common.
func TestMeet(t *testing.T) {
	for old := 1; old < sets; old++ {
		for next := 1; next < sets; next++ {
			if old != next && roster.May(list(old), list(next)) != api.OK {
				continue
			}
			for one := range sets {
				// Who is not in the one set would be all that the other one may have.
				if roster.Majority(list(old), list(one)...) && roster.Majority(list(next), list(sets-1-one)...) {
					t.Fatal(list(old), list(next), list(one))
				}
			}
		}
	}
}

// P10.6: whoever joined and leaves, leaves what was; both are changes that may be.
func TestThereAndBack(t *testing.T) {
	for set := 1; set < sets; set++ {
		for n := range api.MaxNodes {
			was := list(set)
			joined := roster.Join(was, n)
			want(t, roster.Check(joined...), api.OK)
			if roster.Votes(was, n) {
				want(t, roster.May(was, joined), api.ErrChange)
				continue
			}
			want(t, roster.May(was, joined), api.OK)
			want(t, roster.May(joined, was), api.OK)
			if l := roster.Leave(joined, n); !slices.Equal(l, was) {
				t.Fatal(was, n, l)
			}
		}
	}
}
