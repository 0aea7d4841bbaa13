package page

import (
	"slices"

	"ciborium/api"
)

// Get tells what stands in a page.
func (p *Pager) Get(n int) (api.Page, api.Errno) {
	if e := p.refuses(n); e != api.OK {
		return api.Page{}, e
	}
	if x, ok := p.atHand[n]; ok {
		return x, api.OK
	}
	return p.log.Read(n)
}

// Put puts it there.
func (p *Pager) Put(n int, x api.Page) api.Errno {
	if e := p.refuses(n); e != api.OK {
		return e
	}
	p.atHand[n] = x
	return api.OK
}

// Take takes a page.
func (p *Pager) Take() (int, api.Errno) {
	if p == nil {
		return 0, api.ErrNil
	}
	n := p.now.taken.firstFree()
	if !p.has(n) {
		return 0, api.ErrFull
	}
	p.now.taken.add(n)
	p.atHand[n] = api.Page{}
	return n, api.OK
}

// Give gives one back.
func (p *Pager) Give(n int) api.Errno {
	if e := p.refuses(n); e != api.OK {
		return e
	}
	if slices.Contains(p.now.roots[:], n) {
		return api.ErrUsed
	}
	p.now.taken.drop(n)
	delete(p.atHand, n)
	return api.OK
}

// refuses is what is wrong with asking for the data page n; OK, if it is taken.
func (p *Pager) refuses(n int) api.Errno {
	switch {
	case p == nil:
		return api.ErrNil
	case !p.isData(n):
		return api.ErrArg
	case !p.now.taken.has(n):
		return api.ErrFree
	}
	return api.OK
}
