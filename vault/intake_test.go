package vault_test

import (
	"bytes"
	"math"
	"math/rand"
	"testing"

	"spandrel/api"
	"spandrel/vault"
)

// takes fails, unless an intake takes a piece that is not the last one.
func takes(t *testing.T, i *vault.Intake, index, term, at int, piece []byte) {
	t.Helper()
	if b, done, e := i.Take(index, term, at, piece, false); b != nil || done || e != api.OK {
		t.Fatal(index, term, at, len(b), done, e)
	}
}

// ends fails, unless an intake takes the last piece, and tells all data.
func ends(t *testing.T, i *vault.Intake, index, term, at int, piece, all []byte) {
	t.Helper()
	if b, done, e := i.Take(index, term, at, piece, true); !bytes.Equal(b, all) || !done || e != api.OK {
		t.Fatal(index, term, at, len(b), done, e)
	}
	if i.Have(index, term) != 0 {
		t.Error(i.Have(index, term))
	}
}

// refuses fails, unless an intake has that error, of a piece that is the last one and of one that is not.
func refuses(t *testing.T, i *vault.Intake, index, term, at int, piece []byte, want api.Errno) {
	t.Helper()
	for _, last := range []bool{false, true} {
		if b, done, e := i.Take(index, term, at, piece, last); b != nil || done || e != want {
			t.Error(index, term, at, len(b), done, e)
		}
	}
}

// P6.4: pieces stand one behind the other, of one state at a time.
func TestIntake(t *testing.T) {
	var i vault.Intake
	if i.Have(3, 1) != 0 || i.Have(0, 0) != 0 {
		t.Error("it has something")
	}
	takes(t, &i, 3, 1, 0, []byte("abc"))
	takes(t, &i, 3, 1, 3, nil)
	takes(t, &i, 3, 1, 3, []byte("d"))
	if i.Have(3, 1) != 4 || i.Have(3, 2) != 0 || i.Have(4, 1) != 0 || i.Have(0, 0) != 0 {
		t.Error(i.Have(3, 1))
	}
	ends(t, &i, 3, 1, 4, []byte("ef"), []byte("abcdef"))
	refuses(t, &i, 3, 1, 6, nil, api.ErrChunk)
	ends(t, &i, 3, 1, 0, []byte("whole"), []byte("whole"))
	ends(t, &i, 3, 1, 0, nil, nil)
	takes(t, &i, 3, 1, 0, nil)
	if i.Have(3, 1) != 0 {
		t.Error(i.Have(3, 1))
	}
	ends(t, &i, 3, 1, 0, []byte("x"), []byte("x"))
}

// P6.4: at 0 what there was falls away, of the same state and of another one.
func TestIntakeAgain(t *testing.T) {
	var i vault.Intake
	takes(t, &i, 3, 1, 0, []byte("abc"))
	takes(t, &i, 3, 1, 0, []byte("xy"))
	if i.Have(3, 1) != 2 {
		t.Error(i.Have(3, 1))
	}
	takes(t, &i, 4, 1, 0, []byte("z"))
	if i.Have(3, 1) != 0 || i.Have(4, 1) != 1 {
		t.Error(i.Have(3, 1), i.Have(4, 1))
	}
	ends(t, &i, 4, 1, 1, []byte("w"), []byte("zw"))
	takes(t, &i, 4, 2, 0, []byte("z"))
	if i.Have(4, 1) != 0 || i.Have(4, 2) != 1 {
		t.Error(i.Have(4, 1), i.Have(4, 2))
	}
	takes(t, &i, -5, math.MinInt, 0, []byte("any"))
	ends(t, &i, -5, math.MinInt, 3, []byte("."), []byte("any."))
}

// P6.4: a piece that does not go on changes nothing.
func TestIntakeErrors(t *testing.T) {
	var i vault.Intake
	for _, at := range []int{1, -1, math.MinInt, math.MaxInt} {
		refuses(t, &i, 0, 0, at, []byte("a"), api.ErrChunk)
	}
	takes(t, &i, 3, 1, 0, []byte("abc"))
	long := make([]byte, api.MaxImage+1)
	for _, x := range []struct{ index, term, at int }{{3, 1, 2}, {3, 1, 4}, {3, 1, -3}, {3, 1, math.MaxInt}, {3, 1, math.MinInt}, {4, 1, 3}, {3, 2, 3}, {0, 0, 3}} {
		refuses(t, &i, x.index, x.term, x.at, []byte("d"), api.ErrChunk)
		refuses(t, &i, x.index, x.term, x.at, long, api.ErrChunk)
	}
	ends(t, &i, 3, 1, 3, []byte("d"), []byte("abcd"))
}

// P6.4: more than MaxImage is too long; what there was stays, but at 0.
func TestIntakeLong(t *testing.T) {
	var i vault.Intake
	all := data(api.MaxImage)
	ends(t, &i, 3, 1, 0, all, all)
	takes(t, &i, 3, 1, 0, all[:9])
	refuses(t, &i, 3, 1, 9, all[8:], api.ErrLong)
	if i.Have(3, 1) != 9 {
		t.Error(i.Have(3, 1))
	}
	takes(t, &i, 3, 1, 9, all[9:])
	refuses(t, &i, 3, 1, api.MaxImage, []byte{1}, api.ErrLong)
	ends(t, &i, 3, 1, api.MaxImage, nil, all)
	takes(t, &i, 3, 1, 0, all[:9])
	refuses(t, &i, 3, 1, 0, make([]byte, api.MaxImage+1), api.ErrLong)
	if i.Have(3, 1) != 0 {
		t.Error(i.Have(3, 1))
	}
	takes(t, &i, 3, 1, 0, all[:9])
	refuses(t, &i, 4, 1, 0, make([]byte, api.MaxImage+1), api.ErrLong)
	if i.Have(3, 1) != 0 || i.Have(4, 1) != 0 {
		t.Error(i.Have(3, 1), i.Have(4, 1))
	}
	refuses(t, &i, 3, 1, 9, nil, api.ErrChunk)
}

// P6.4: no intake at all.
func TestIntakeNil(t *testing.T) {
	var i *vault.Intake
	if i.Have(0, 0) != 0 || i.Have(3, 1) != 0 {
		t.Error("it has something")
	}
	refuses(t, i, 3, 1, 0, []byte("a"), api.ErrNil)
	refuses(t, i, 3, 1, 5, make([]byte, api.MaxImage+1), api.ErrNil)
}

// Rule Memory: no piece is kept or changed, and what was told is nobody else's.
func TestIntakeMemory(t *testing.T) {
	var i vault.Intake
	room := []byte("abcdef")
	takes(t, &i, 3, 1, 0, room[:2])
	takes(t, &i, 3, 1, 2, room[4:5])
	if string(room) != "abcdef" {
		t.Error(string(room))
	}
	clear(room)
	b, _, _ := i.Take(3, 1, 3, []byte("g"), true)
	takes(t, &i, 3, 1, 0, []byte("XXXXXXXX"))
	if string(b) != "abeg" {
		t.Error(string(b))
	}
	clear(b[:cap(b)])
	ends(t, &i, 3, 1, 8, nil, []byte("XXXXXXXX"))
	whole := []byte("whole")
	b, _, _ = i.Take(3, 1, 0, whole, true)
	clear(whole)
	if string(b) != "whole" {
		t.Error(string(b))
	}
}

// P6.6: the pieces of a state, taken one behind the other, are its data; taken again too.
func TestOver(t *testing.T) {
	v := open(t, fresh(t, api.MaxRoom))
	r := rand.New(rand.NewSource(66))
	var i vault.Intake
	for _, s := range good() {
		want(t, v.Save(s))
		for range 2 {
			at, n := 0, 0
			for {
				piece, last, e := v.Piece(at)
				if e != api.OK {
					t.Fatal(at, e)
				}
				// What came late, or comes twice, is refused and changes nothing; the first one would begin anew.
				if at > 0 && r.Intn(3) == 0 {
					refuses(t, &i, s.Index, s.Term, 1+r.Intn(at)+len(s.Data), piece, api.ErrChunk)
				}
				b, done, e := i.Take(s.Index, s.Term, at, piece, last)
				if e != api.OK || done != last {
					t.Fatal(at, done, e)
				}
				n++
				if done {
					if !bytes.Equal(b, s.Data) || n != max(1, (len(s.Data)+511)/512) {
						t.Fatal(len(b), n)
					}
					break
				}
				if at = i.Have(s.Index, s.Term); at != n*512 {
					t.Fatal(at)
				}
			}
		}
	}
}
