package turn_test

import (
	"slices"
	"testing"

	"spandrel/api"
	"spandrel/turn"
)

// Steps are done in their order, up to the first that has an error.
func TestDo(t *testing.T) {
	var did []int
	step := func(n int, e api.Errno) func() api.Errno {
		return func() api.Errno {
			did = append(did, n)
			return e
		}
	}
	if e := turn.Do(); e != api.OK {
		t.Error(e)
	}
	if e := turn.Do(step(1, api.OK), step(2, api.OK)); e != api.OK || !slices.Equal(did, []int{1, 2}) {
		t.Error(e, did)
	}
	did = nil
	if e := turn.Do(step(1, api.OK), step(2, api.ErrFull), step(3, api.ErrDown)); e != api.ErrFull || !slices.Equal(did, []int{1, 2}) {
		t.Error(e, did)
	}
}
