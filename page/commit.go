package page

import (
	"slices"

	"ciborium/api"
)

// Changed is how many pages a Commit would write.
func (p *Pager) Changed() (int, api.Errno) {
	w, e := p.changed()
	return len(w), e
}

// Commit makes all that was done last.
func (p *Pager) Commit() api.Errno {
	w, e := p.changed()
	if e != api.OK {
		return e
	}
	if e := p.log.Commit(w); e != api.OK {
		return e
	}
	p.committed = p.now
	p.forget()
	return api.OK
}

// Rollback undoes it.
func (p *Pager) Rollback() api.Errno {
	if p == nil {
		return api.ErrNil
	}
	p.forget()
	return api.OK
}

// forget leaves at hand what was committed last, and nothing else.
func (p *Pager) forget() {
	p.now, p.atHand = p.committed, map[int]api.Page{}
}

// changed is the pages that a Commit writes, rising.
func (p *Pager) changed() ([]api.Image, api.Errno) {
	if p == nil {
		return nil, api.ErrNil
	}
	var w []api.Image
	last := p.lay(p.committed)
	for n, x := range p.lay(p.now) {
		if x != last[n] {
			w = append(w, api.Image{Page: n, Data: x})
		}
	}
	for _, n := range p.touched() {
		was, e := p.log.Read(n)
		if e != api.OK {
			return nil, e
		}
		if x := p.atHand[n]; x != was {
			w = append(w, api.Image{Page: n, Data: x})
		}
	}
	return w, api.OK
}

// touched are the data pages that were put or taken, rising.
func (p *Pager) touched() []int {
	var all []int
	for n := range p.atHand {
		all = append(all, n)
	}
	slices.Sort(all)
	return all
}
