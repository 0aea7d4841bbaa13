package wal

import "ciborium/api"

// Commit writes pages, all or none.
func (l *Log) Commit(w []api.Image) api.Errno {
	switch {
	case l == nil:
		return api.ErrNil
	case !l.names(w):
		return api.ErrArg
	case len(w) == 0:
		return api.OK
	case len(w) > l.most():
		return api.ErrBig
	case l.dead:
		return api.ErrDead
	}
	if l.Room() < len(w)+besides {
		if e := l.Checkpoint(); e != api.OK {
			return e
		}
	}
	if e := l.noted(inOrder(l.committing(w))); e != api.OK {
		return e
	}
	l.take(w)
	return api.OK
}

// committing is the steps that write a record behind the last one. Its end comes when all else is flushed: a record with an end is whole.
func (l *Log) committing(w []api.Image) []step {
	var steps []step
	frames := recordOf(l.generation, l.records, w)
	for i, s := range frames {
		if i == len(frames)-1 {
			steps = append(steps, l.disk.Flush)
		}
		steps = append(steps, func() api.Errno { return l.disk.Write(heads+l.used+i, s) })
	}
	return append(steps, l.disk.Flush)
}
