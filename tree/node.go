package tree

import (
	"ciborium/api"
	"ciborium/octet"
)

// A page of a node has its level, how many entries it has, and these; a page of a value has a first byte that is 0, so that none is taken for the other.
const (
	leafLevel = 1
	// mostLevels is as many as there may be: a tree of one more has 2^14 - 1 nodes, and no log has so many data pages.
	mostLevels = 13
	headBytes  = 2
)

// entry is, in a leaf, a key, how many bytes its value has, and the first page of that (0: none); in a branch, from which key on a child speaks, and its page.
type entry struct {
	key        string
	size, page int
}

// span is keys that stand in a row: from low on, and ahead of high, or, if that is empty, without an end.
type span struct {
	low, high string
}

// place is where a node stands, how far above the leaves, and of which keys it speaks.
type place struct {
	page, level int
	span
}

// node is what stands in a page of the tree: a leaf has keys, rising; a branch has two or three children. A branch's first child speaks from where the branch itself does, so that its key is not in the page.
type node struct {
	place
	entries []entry
}

// isLeaf says whether a node has keys, and no children.
func (x *node) isLeaf() bool { return x.level == leafLevel }

// values is the keys that a node has, with their values.
func (x *node) values() []entry {
	if x.isLeaf() {
		return x.entries
	}
	return nil
}

// children is the nodes right below a node.
func (x *node) children() []entry {
	if x.isLeaf() {
		return nil
	}
	return x.entries
}

// part is of which keys the child i of a branch speaks.
func (x *node) part(i int) span {
	s := span{x.entries[i].key, x.high}
	if i+1 < len(x.entries) {
		s.high = x.entries[i+1].key
	}
	return s
}

// lay is the page that says what a node is.
func (x *node) lay() (p api.Page) {
	b := []byte{byte(x.level), byte(len(x.entries))}
	for i, v := range x.entries {
		if x.isLeaf() || i > 0 {
			b, _ = octet.PutText(b, v.key)
		}
		if x.isLeaf() {
			b = octet.Put16(b, uint16(v.size))
		}
		b = octet.Put32(b, uint32(v.page))
	}
	copy(p[:], b)
	return p
}

// read makes a node what its page says; false, if that is none that may stand in its place.
func (x *node) read(p api.Page) bool {
	r := octet.Read(p[:])
	x.level = int(r.U8())
	for i := range int(r.U8()) {
		v := entry{key: x.low}
		if x.isLeaf() || i > 0 {
			v.key = r.Text()
		}
		if x.isLeaf() {
			v.size = int(r.U16())
		}
		v.page = int(r.U32())
		x.entries = append(x.entries, v)
	}
	// Whatever stands behind the entries is not there in what is laid anew.
	return r.Err() == api.OK && x.isWhole() && x.lay() == p
}

// isWhole says whether a node is such as there may be where it stands.
func (x *node) isWhole() bool {
	switch n := len(x.entries); {
	case x.level < leafLevel, x.level > mostLevels:
		return false
	case n == 0, !x.isLeaf() && (n < 2 || n > mostChildren):
		return false
	}
	for i, v := range x.entries {
		switch {
		case x.isLeaf() && !v.isWhole(), len(v.key) > api.MaxKey:
			return false
		case i > 0 && v.key <= x.entries[i-1].key:
			return false
		}
	}
	return x.entries[0].key >= x.low && (x.high == "" || x.entries[len(x.entries)-1].key < x.high)
}

// isWhole says whether an entry of a leaf is such as there may be.
func (v entry) isWhole() bool {
	return isKey(v.key) && v.size <= api.MaxValue && (v.size == 0) == (v.page == 0)
}
