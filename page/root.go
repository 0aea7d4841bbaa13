package page

import "ciborium/api"

// Root tells a root.
func (p *Pager) Root(i int) (int, api.Errno) {
	switch {
	case p == nil:
		return 0, api.ErrNil
	case !isRoot(i):
		return 0, api.ErrArg
	}
	return p.now.roots[i], api.OK
}

// SetRoot says which page it is.
func (p *Pager) SetRoot(i, n int) api.Errno {
	switch {
	case p == nil:
		return api.ErrNil
	case !isRoot(i):
		return api.ErrArg
	}
	if n != 0 {
		if e := p.refuses(n); e != api.OK {
			return e
		}
	}
	p.now.roots[i] = n
	return api.OK
}

// isRoot says whether there is a root i.
func isRoot(i int) bool { return i >= 0 && i < api.Roots }
