package aes

import (
	"crypto/aes"
	"math/rand"
	"testing"
)

func TestP5_2BlockExamples(t *testing.T) {
	for _, x := range examples(t) {
		if got := Expand(x.key).Block(x.plain); got != x.sealed {
			t.Errorf("P5.2: %s: Block(%x): %x, not %x", x.name, x.plain, got, x.sealed)
		}
	}
}

func TestP5_3BackExamples(t *testing.T) {
	for _, x := range examples(t) {
		if got := Expand(x.key).Back(x.sealed); got != x.plain {
			t.Errorf("P5.3: %s: Back(%x): %x, not %x", x.name, x.sealed, got, x.plain)
		}
	}
}

// sameBlock: Block(b) under key is what the chapter's words come to, and Back goes back.
func sameBlock(t *testing.T, subs [256]byte, key [32]byte, b [16]byte) {
	t.Helper()
	k := Expand(key)
	want := newReckoner(subs, key).block(b)
	if got := k.Block(b); got != want {
		t.Errorf("P5.2: key %x: Block(%x): %x, not %x", key, b, got, want)
	}
	if got := k.Back(want); got != b {
		t.Errorf("P5.3: key %x: Back(%x): %x, not %x", key, want, got, b)
	}
}

// TestP5_2BlockReckoned: many keys and blocks, those at the edges among them.
func TestP5_2BlockReckoned(t *testing.T) {
	subs := wantSubs()
	r := rand.New(rand.NewSource(57))
	for _, key := range edgeKeys() {
		sameBlock(t, subs, key, [16]byte{})
		sameBlock(t, subs, key, someBlock(r))
	}
	for _, b := range edgeBlocks() {
		sameBlock(t, subs, [32]byte{}, b)
		sameBlock(t, subs, someKey(r), b)
	}
	for range 300 {
		sameBlock(t, subs, someKey(r), someBlock(r))
	}
}

// TestP5_2BlockLibrary: held against the library's AES, both ways.
func TestP5_2BlockLibrary(t *testing.T) {
	r := rand.New(rand.NewSource(58))
	for range 500 {
		key := someKey(r)
		library, err := aes.NewCipher(key[:])
		if err != nil {
			t.Fatal(err)
		}
		k := Expand(key)
		for range 4 {
			b := someBlock(r)
			var sealed, plain [16]byte
			library.Encrypt(sealed[:], b[:])
			library.Decrypt(plain[:], b[:])
			if got := k.Block(b); got != sealed {
				t.Errorf("P5.2: key %x: Block(%x): %x, not %x", key, b, got, sealed)
			}
			if got := k.Back(b); got != plain {
				t.Errorf("P5.3: key %x: Back(%x): %x, not %x", key, b, got, plain)
			}
		}
	}
}

// TestP5_2BlockChain: a long row in which each block comes of the one ahead of it, and back to its beginning.
func TestP5_2BlockChain(t *testing.T) {
	key := [32]byte(unhex(t, "603deb1015ca71be2b73aef0857d77811f352c073b6108d72d9810a30914dff4"))
	library, err := aes.NewCipher(key[:])
	if err != nil {
		t.Fatal(err)
	}
	k := Expand(key)
	var b, want [16]byte
	for range 2000 {
		b = k.Block(b)
		library.Encrypt(want[:], want[:])
	}
	if b != want {
		t.Errorf("P5.2: behind 2000 blocks: %x, not %x", b, want)
	}
	for range 2000 {
		b = k.Back(b)
	}
	if b != [16]byte{} {
		t.Errorf("P5.3: back at the beginning: %x", b)
	}
}

// rising is a block whose bytes tell their places.
func rising() (b block) {
	for i := range b {
		b[i] = byte(i)
	}
	return b
}

func TestP5_2Turned(t *testing.T) {
	want := block{0, 5, 10, 15, 4, 9, 14, 3, 8, 13, 2, 7, 12, 1, 6, 11}
	if got := rising().turned(round{}); got != want {
		t.Errorf("P5.2: turned: %d", got)
	}
	if got := want.unturned(round{}); got != rising() {
		t.Errorf("P5.3: unturned: %d", got)
	}
}

func TestP5_2Mixed(t *testing.T) {
	b := block(unhex(t, "db135345"+"f20a225c"+"01010101"+"2d26314c"))
	want := block(unhex(t, "8e4da1bc"+"9fdc589d"+"01010101"+"4d7ebdf8"))
	if got := b.mixed(round{}); got != want {
		t.Errorf("P5.2: mixed: %x, not %x", got, want)
	}
	if got := want.unmixed(round{}); got != b {
		t.Errorf("P5.3: unmixed: %x, not %x", got, b)
	}
	if b.mixed(round{last: true}) != b || b.unmixed(round{last: true}) != b {
		t.Errorf("P5.2: the last round mixes")
	}
}

// TestP5_2MixedEach: each byte of a column, with each value, counts with its factors, and in no other column.
func TestP5_2MixedEach(t *testing.T) {
	for at := range 16 {
		for x := range 256 {
			b := block{}
			b[at] = byte(x)
			var g grid
			g[at/4][at%4] = byte(x)
			mix(&g)
			got := b.mixed(round{})
			for i, y := range got {
				if y != g[i/4][i%4] {
					t.Fatalf("P5.2: %x at %d mixed: %x, not %x", x, at, got, g)
				}
			}
			if got.unmixed(round{}) != b {
				t.Fatalf("P5.3: %x at %d mixed and unmixed: %x", x, at, got.unmixed(round{}))
			}
		}
	}
}

// TestFollowsThereAndBack: Back of Block and Block of Back are the block that there was, under every key.
func TestFollowsThereAndBack(t *testing.T) {
	r := rand.New(rand.NewSource(59))
	check := func(k Key, b [16]byte) {
		if got := k.Back(k.Block(b)); got != b {
			t.Errorf("P5.3: Back of Block(%x): %x", b, got)
		}
		if got := k.Block(k.Back(b)); got != b {
			t.Errorf("P5.3: Block of Back(%x): %x", b, got)
		}
	}
	for _, key := range edgeKeys() {
		k := Expand(key)
		check(k, [16]byte{})
		check(k, someBlock(r))
	}
	k := Expand(someKey(r))
	for _, b := range edgeBlocks() {
		check(k, b)
	}
	for range 300 {
		check(Expand(someKey(r)), someBlock(r))
	}
}

// TestFollowsUnlike: unlike blocks come to unlike ones, both ways; a byte's 256 values at each place among them.
func TestFollowsUnlike(t *testing.T) {
	r := rand.New(rand.NewSource(60))
	k, base := Expand(someKey(r)), someBlock(r)
	blocks := map[[16]byte]bool{}
	for at := range 16 {
		for x := range 256 {
			b := base
			b[at] = byte(x)
			blocks[b] = true
		}
	}
	sealed, plain := map[[16]byte]bool{}, map[[16]byte]bool{}
	for b := range blocks {
		sealed[k.Block(b)] = true
		plain[k.Back(b)] = true
	}
	if len(blocks) != 16*255+1 || len(sealed) != len(blocks) || len(plain) != len(blocks) {
		t.Errorf("P5.2, P5.3: %d blocks come to %d, and back to %d", len(blocks), len(sealed), len(plain))
	}
}
