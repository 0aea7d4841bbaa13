package wal

import (
	"ciborium/api"
	"ciborium/disk"
)

// Format lays an empty log of so many sectors, and pages that are all zero.
func Format(d *disk.Disk, log int) api.Errno {
	if d == nil {
		return api.ErrNil
	}
	y, ok := layoutOf(d.Size(), log)
	if !ok {
		return api.ErrArg
	}
	return inOrder(formatting(d, y))
}

// formatting is the steps that lay d anew. The head comes last: till it is flushed there is no log, not the one that was there before either.
func formatting(d *disk.Disk, y layout) []step {
	const first uint64 = 1
	var steps []step
	for i := range heads + y.log {
		steps = append(steps, func() api.Errno { return d.Write(i, api.Sector{}) })
	}
	steps = append(steps, d.Flush)
	for p := range y.pages {
		steps = append(steps, func() api.Errno { return d.Write(y.home(p), homeFrame(first, p, api.Page{})) })
	}
	begin := func() api.Errno { return d.Write(headPlace(first), y.head(first)) }
	return append(steps, d.Flush, begin, d.Flush)
}
