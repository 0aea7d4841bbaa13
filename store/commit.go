package store

import "ciborium/api"

// Commit makes all that was done last.
func (s *Store) Commit() api.Errno {
	if e := s.refuses(); e != api.OK {
		return e
	}
	return s.noted(s.now.commit())
}

// Rollback undoes it.
func (s *Store) Rollback() api.Errno {
	if e := s.refuses(); e != api.OK {
		return e
	}
	return s.now.pager.Rollback()
}

// commit makes all that is at hand last. What the log never takes at once is undone: it would stand in the way of every later Commit.
func (x transaction) commit() api.Errno {
	e := x.pager.Commit()
	if e == api.ErrBig {
		x.pager.Rollback()
	}
	return e
}
