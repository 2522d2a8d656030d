package node

import (
	"spandrel/api"
	"spandrel/disk"
	"spandrel/machine"
	"spandrel/turn"
	"spandrel/vault"
	"spandrel/wal"
)

// memory is what a node has on its disk.
type memory struct {
	log   *wal.Log
	vault *vault.Vault
}

// recall is what a disk has of a node.
func recall(d *disk.Disk) (memory, api.Errno) {
	l, e := wal.Open(d)
	if e != api.OK {
		return memory{}, e
	}
	v, e := vault.Open(d)
	if e != api.OK {
		return memory{}, e
	}
	return memory{log: l, vault: v}, api.OK
}

// begin is the snapshot with which a node begins, and its state. Where none was kept, it has nothing but voters.
func (m memory) begin(voters []int) (api.Snap, *machine.Machine, api.Errno) {
	if s, kept := m.vault.Last(); kept {
		state, e := stateOf(s)
		return s, state, e
	}
	state, e := machine.New(voters...)
	return api.Snap{Voters: voters}, state, e
}

// meet has the log go on from a snapshot: the power may have gone when the vault had it, and the log did not know of it yet.
func (m memory) meet(s api.Snap) api.Errno {
	index, term := m.log.Base()
	switch {
	case index > s.Index:
		return api.ErrWal
	case index == s.Index && term == s.Term:
		return api.OK
	}
	return m.log.Rebase(s.Index, s.Term)
}

// keep makes last what raft tells to be kept; the disk is left alone, if that is nothing.
func (m memory) keep(o api.Output) error {
	steps := m.steps(o)
	if len(steps) == 0 {
		return nil
	}
	if e := turn.Do(append(steps, m.log.Sync)...); e != api.OK {
		return halt{at: "its disk", why: e}
	}
	return nil
}

// steps is what is to be done on the disk, in its order. The hard state comes first: no entry that lasts is of a later term.
func (m memory) steps(o api.Output) []func() api.Errno {
	var l []func() api.Errno
	if o.Hard != nil {
		l = append(l, func() api.Errno { return m.log.Put(*o.Hard) })
	}
	if o.Snap != nil {
		l = append(l,
			func() api.Errno { return m.vault.Save(*o.Snap) },
			func() api.Errno { return m.log.Rebase(o.Snap.Index, o.Snap.Term) },
		)
	}
	if o.Cut != 0 {
		l = append(l, func() api.Errno { return m.log.Cut(o.Cut) })
	}
	if len(o.Entries) > 0 {
		l = append(l, func() api.Errno { return m.log.Append(o.Entries...) })
	}
	return l
}
