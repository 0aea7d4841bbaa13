package tree

import (
	"ciborium/api"
	"ciborium/page"
)

// work is what one call does with a tree. What was read lies in a map, and is changed there; the pager hears of that only when nothing can go wrong any more.
type work struct {
	pager *page.Pager
	root  int
	nodes map[int]*node
	// top is the node that hangs on the root; nil, if none does.
	top     *node
	changed []*node
	gone    []int
}

// begin reads what hangs on the root.
func (t *Tree) begin() (*work, api.Errno) {
	if t == nil {
		return nil, api.ErrNil
	}
	w := &work{pager: t.pager, root: t.root, nodes: map[int]*node{}}
	n, e := t.pager.Root(t.root)
	if e == api.OK && n != 0 {
		w.top, e = w.node(place{page: n})
	}
	return w, e
}

// node is the one that stands in a place; the level 0 is any.
func (w *work) node(at place) (*node, api.Errno) {
	x := w.nodes[at.page]
	if x == nil {
		p, e := w.read(at.page)
		if e != api.OK {
			return nil, e
		}
		x = &node{place: at}
		if !x.read(p) {
			return nil, api.ErrTree
		}
		w.nodes[at.page] = x
	}
	if at.level == 0 {
		at.level = x.level
	}
	if x.place != at {
		return nil, api.ErrTree
	}
	return x, api.OK
}

// child is the node that the entry i of a branch names.
func (w *work) child(x *node, i int) (*node, api.Errno) {
	return w.node(place{x.entries[i].page, x.level - 1, x.part(i)})
}

// read is what stands in a page of the tree.
func (w *work) read(n int) (api.Page, api.Errno) {
	if w.isOthers(n) {
		return api.Page{}, api.ErrTree
	}
	p, e := w.pager.Get(n)
	if e == api.ErrArg || e == api.ErrFree {
		e = api.ErrTree
	}
	return p, e
}

// isOthers says whether a page hangs on another root: it can't be given back then.
func (w *work) isOthers(n int) bool {
	for i := range api.Roots {
		if r, _ := w.pager.Root(i); i != w.root && r == n {
			return true
		}
	}
	return false
}

// take takes a page; whoever calls knows that one is free.
func (w *work) take() int {
	n, _ := w.pager.Take()
	return n
}

// make makes a new node.
func (w *work) make(level int, entries []entry) *node {
	x := &node{place: place{page: w.take(), level: level}, entries: entries}
	w.nodes[x.page] = x
	w.change(x)
	return x
}

// change remembers nodes that are not what their pages say any more.
func (w *work) change(all ...*node) { w.changed = append(w.changed, all...) }

// giveUp remembers pages that the tree needs no more.
func (w *work) giveUp(pages ...int) { w.gone = append(w.gone, pages...) }

// settle tells the pager all that was done. None of it can fail: the pages are taken, and those to be given back hang on no root any more.
func (w *work) settle() {
	n := 0
	if w.top != nil {
		n = w.top.page
	}
	w.pager.SetRoot(w.root, n)
	for _, x := range w.changed {
		w.pager.Put(x.page, x.lay())
	}
	for _, n := range w.gone {
		w.pager.Give(n)
	}
}
