package wal

import "ciborium/api"

// step is something that is done to a disk, and may fail.
type step func() api.Errno

// inOrder does one step behind the other, till one fails.
func inOrder(steps []step) api.Errno {
	for _, do := range steps {
		if e := do(); e != api.OK {
			return e
		}
	}
	return api.OK
}
