package aes

import "ciborium/field"

// block is what the steps of a round are taken on: the columns behind each other, each a byte of every row.
type block [16]byte

// round is what the steps hang on beside their block. All of them are handed it, so that they are of one kind and stand in one list.
type round struct {
	key  block
	last bool // its columns are not mixed
}

// subbed is b with each byte by sub.
func (b block) subbed(round) block {
	for i, x := range b {
		b[i] = sub(x)
	}
	return b
}

// unsubbed is the block of which subbed is b.
func (b block) unsubbed(round) block {
	for i, x := range b {
		b[i] = unsub(x)
	}
	return b
}

// turned is b with its row q turned by q places to the left.
func (b block) turned(round) block {
	var out block
	for i := range out {
		out[i] = b[turnedFrom(i)]
	}
	return out
}

// unturned is the block of which turned is b.
func (b block) unturned(round) block {
	var out block
	for i := range out {
		out[turnedFrom(i)] = b[i]
	}
	return out
}

// turnedFrom is where the byte stood that is number i of a turned block: as many columns on as its row's number.
func turnedFrom(i int) int {
	row := i % 4
	return (i + 4*row) % 16
}

// mixed is b with its columns mixed; in the last round b as it is.
func (b block) mixed(r round) block {
	if r.last {
		return b
	}
	var out block
	for i := range out {
		own, next := b[i], b[below(i, 1)]
		others := field.Add(b[below(i, 2)], b[below(i, 3)])
		// 2 own + 3 next is 2 (own + next) + next: so one product is enough.
		both := field.Mul(field.Add(own, next), 2)
		out[i] = field.Add(both, field.Add(next, others))
	}
	return out
}

// unmixed is the block of which mixed is b.
func (b block) unmixed(r round) block {
	// Mixed four times a block is what it was: three times undo the one.
	return b.mixed(r).mixed(r).mixed(r)
}

// below is the number of the byte n rows below number i in its column, which begins again behind its end.
func below(i, n int) int {
	row := i % 4
	return i - row + (row+n)%4
}

// keyed is b with the round's key added.
func (b block) keyed(r round) block {
	for i, x := range r.key {
		b[i] = field.Add(b[i], x)
	}
	return b
}
