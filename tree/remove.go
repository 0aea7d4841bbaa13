package tree

import (
	"slices"

	"ciborium/api"
)

// remove takes a key out below a node. On the way back up a node that is low is joined with one beside it.
func (w *work) remove(x *node, key string) api.Errno {
	if x.isLeaf() {
		i, _ := x.spot(key)
		x.entries = slices.Delete(x.entries, i, i+1)
		w.change(x)
		return api.OK
	}
	i := x.way(key)
	y := w.nodes[x.entries[i].page]
	if e := w.remove(y, key); e != api.OK || !y.isLow() {
		return e
	}
	return w.join(x, min(i, len(x.entries)-2))
}

// join makes of the children i and i+1 of a branch one, or two that weigh the same.
func (w *work) join(x *node, i int) api.Errno {
	a, e := w.child(x, i)
	if e != api.OK {
		return e
	}
	b, e := w.child(x, i+1)
	if e != api.OK {
		return e
	}
	a.entries = slices.Concat(a.entries, b.entries)
	a.entries, b.entries = a.cut()
	w.change(x, a)
	if b.entries == nil {
		w.giveUp(b.page)
		x.entries = slices.Delete(x.entries, i+1, i+2)
		return api.OK
	}
	w.change(b)
	x.entries[i+1] = b.entryIn()
	return api.OK
}

// lower takes the top away where it has nothing, or one child alone, which is the top then.
func (w *work) lower() {
	old := w.top
	switch n := len(old.entries); {
	case n == 0:
		w.top = nil
	case n == 1 && !old.isLeaf():
		w.top = w.nodes[old.entries[0].page]
	default:
		return
	}
	w.giveUp(old.page)
}
