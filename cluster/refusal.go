package cluster

import (
	"errors"

	"spandrel/api"
)

// refusal is why a step came to nothing: who refused it, and with which error.
type refusal struct {
	by  string
	why api.Errno
}

func (r refusal) Error() string { return "cluster: " + r.by + " refused: " + r.why.Error() }

func (r refusal) Unwrap() error { return r.why }

// refused is what somebody answered, if that is an error; nil: it is none.
func refused(by string, why api.Errno) error {
	if why == api.OK {
		return nil
	}
	return refusal{by: by, why: why}
}

// noStep is that a step can't be, and noNode that a node runs, or does not.
func noStep() error { return refused("the script", api.ErrStep) }
func noNode() error { return refused("the script", api.ErrNode) }

// came is what a step came to.
func came(err error) api.Errno {
	var e api.Errno
	errors.As(err, &e)
	return e
}

// ends tells whether a node that answers an error runs no more.
func ends(err error) bool {
	return errors.Is(err, api.ErrDown) || errors.Is(err, api.ErrFull) || errors.Is(err, api.ErrStore)
}
