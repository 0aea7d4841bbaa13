package tree

import "ciborium/api"

const (
	// entryBytes is how many bytes an entry of a leaf has besides its key.
	entryBytes = 8
	leafRoom   = api.PageBytes - headBytes
	// mostChildren are so few that a branch has room for them, be their keys as long as they may: so no branch has to be cut when a key of it changes, and taking a key out of a tree never needs a page.
	mostChildren = 3
)

// room is how much a node may weigh: a leaf is weighed by its bytes, a branch by its children.
func (x *node) room() int {
	if x.isLeaf() {
		return leafRoom
	}
	return mostChildren
}

// weigh is how much of that room an entry takes.
func (x *node) weigh(v entry) int {
	if x.isLeaf() {
		return entryBytes + len(v.key)
	}
	return 1
}

// weight is how much all entries of a node weigh.
func (x *node) weight() int {
	n := 0
	for _, v := range x.entries {
		n += x.weigh(v)
	}
	return n
}

// isLow says whether a node has less than half of what it may have: a branch is low with one child.
func (x *node) isLow() bool { return 2*x.weight() < x.room() }

// cut is the entries of a node in as many parts as they need nodes: one, or two that weigh as nearly the same as they can. No entry has more than half of the room, so that each of the two fits.
func (x *node) cut() (first, second []entry) {
	total, left := x.weight(), 0
	if total <= x.room() {
		return x.entries, nil
	}
	for i, v := range x.entries {
		n := x.weigh(v)
		if 2*left+n > total {
			return x.entries[:i:i], x.entries[i:]
		}
		left += n
	}
	return x.entries, nil
}
