package tree

import (
	"slices"
	"strings"

	"ciborium/api"
)

// find is what the tree has of a key. The nodes on the way to it are in the map then.
func (t *Tree) find(key string) (*work, held, api.Errno) {
	w, e := t.begin()
	if e != api.OK || w.top == nil {
		return w, held{}, e
	}
	x := w.top
	for !x.isLeaf() {
		if x, e = w.child(x, x.way(key)); e != api.OK {
			return nil, held{}, e
		}
	}
	i, there := x.spot(key)
	if !there {
		return w, held{}, api.OK
	}
	h, e := w.held(x.entries[i])
	return w, h, e
}

// spot is which entry has a key, or ahead of which one it would stand.
func (x *node) spot(key string) (int, bool) {
	return slices.BinarySearchFunc(x.entries, key, func(v entry, key string) int { return strings.Compare(v.key, key) })
}

// way is which child of a branch speaks of a key.
func (x *node) way(key string) int {
	i, there := x.spot(key)
	if there {
		return i
	}
	return i - 1
}
