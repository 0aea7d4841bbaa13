package wal

import (
	"slices"

	"ciborium/api"
)

// Checkpoint brings all that is in the log home.
func (l *Log) Checkpoint() api.Errno {
	switch {
	case l == nil:
		return api.ErrNil
	case l.dead:
		return api.ErrDead
	case l.records == 0:
		return api.OK
	}
	if e := l.noted(inOrder(l.bringing())); e != api.OK {
		return e
	}
	l.generation++
	l.empty()
	return api.OK
}

// bringing is the steps that bring all home, and begin the log anew. The new head comes when all is home and flushed: till then the records stand.
func (l *Log) bringing() []step {
	var steps []step
	for _, p := range l.changed() {
		steps = append(steps, func() api.Errno { return l.disk.Write(l.home(p), homeFrame(l.generation, p, l.written[p])) })
	}
	next := l.generation + 1
	begin := func() api.Errno { return l.disk.Write(headPlace(next), l.head(next)) }
	return append(steps, l.disk.Flush, begin, l.disk.Flush)
}

// changed are the pages that records in the log write, rising.
func (l *Log) changed() []int {
	var all []int
	for p := range l.written {
		all = append(all, p)
	}
	slices.Sort(all)
	return all
}
