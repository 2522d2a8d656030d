package vault

import (
	"spandrel/api"
)

// Intake puts pieces together.
type Intake struct {
	index int
	term  int
	data  []byte
}

// Have is up to where pieces of a state came.
func (i *Intake) Have(index, term int) int {
	if i == nil || i.index != index || i.term != term {
		return 0
	}
	return len(i.data)
}

// Take is a piece; the data, if it was the last one.
func (i *Intake) Take(index, term, at int, piece []byte, done bool) ([]byte, bool, api.Errno) {
	switch {
	case i == nil:
		return nil, false, api.ErrNil
	case at == 0:
		*i = Intake{index: index, term: term}
	case i.Have(index, term) != at:
		return nil, false, api.ErrChunk
	}
	if len(i.data)+len(piece) > api.MaxImage {
		return nil, false, api.ErrLong
	}
	i.data = append(i.data, piece...)
	if !done {
		return nil, false, api.OK
	}
	all := i.data
	*i = Intake{}
	return all, true, api.OK
}
