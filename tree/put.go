package tree

import "slices"

// put brings an entry into the tree.
func (w *work) put(v entry) {
	if w.top == nil {
		w.top = w.make(leafLevel, []entry{v})
		return
	}
	if second := w.insert(w.top, v); second != nil {
		w.top = w.make(w.top.level+1, []entry{{page: w.top.page}, second.entryIn()})
	}
}

// insert brings an entry in below a node. On the way back up a node that weighs too much is cut in two; the second of them is answered then.
func (w *work) insert(x *node, v entry) (second *node) {
	if x.isLeaf() {
		x.set(v)
	} else {
		y := w.insert(w.nodes[x.entries[x.way(v.key)].page], v)
		if y == nil {
			return nil
		}
		x.set(y.entryIn())
	}
	w.change(x)
	first, rest := x.cut()
	x.entries = first
	if rest == nil {
		return nil
	}
	return w.make(x.level, rest)
}

// entryIn is the entry of a node in the branch above it.
func (x *node) entryIn() entry { return entry{key: x.entries[0].key, page: x.page} }

// set puts an entry where its key stands.
func (x *node) set(v entry) {
	i, there := x.spot(v.key)
	if there {
		x.entries[i] = v
	} else {
		x.entries = slices.Insert(x.entries, i, v)
	}
}
