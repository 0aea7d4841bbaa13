package aes

import (
	"math/rand"
	"testing"
)

// TestP5_1ExpandKnown: words of the key of FIPS 197, A.3.
func TestP5_1ExpandKnown(t *testing.T) {
	key := [32]byte(unhex(t, "603deb1015ca71be2b73aef0857d77811f352c073b6108d72d9810a30914dff4"))
	k := Expand(key)
	for _, x := range []struct {
		i    int
		want string
	}{
		{0, "603deb10"}, {1, "15ca71be"}, {7, "0914dff4"},
		{8, "9ba35411"}, {9, "8e6925af"}, {11, "2067fcde"}, {12, "a8b09c1a"}, {13, "93d194cd"}, {15, "b75d5b9a"},
		{16, "d59aecb8"}, {20, "b5a9328a"}, {24, "812c81ad"}, {59, "706c631e"},
	} {
		if got := k.words[x.i]; got != word(unhex(t, x.want)) {
			t.Errorf("P5.1: word %d: %x, not %s", x.i, got, x.want)
		}
	}
}

// sameWords: the words of Expand(key) are those of the reckoning.
func sameWords(t *testing.T, subs [256]byte, key [32]byte) {
	t.Helper()
	k, want := Expand(key), newReckoner(subs, key)
	if len(k.words) != len(want.words) {
		t.Fatalf("P5.1: there are %d words", len(k.words))
	}
	for i, w := range k.words {
		if w != word(want.words[i]) {
			t.Fatalf("P5.1: key %x: word %d: %x, not %x", key, i, w, want.words[i])
		}
	}
}

func TestP5_1ExpandAll(t *testing.T) {
	subs := wantSubs()
	for _, key := range edgeKeys() {
		sameWords(t, subs, key)
	}
	r := rand.New(rand.NewSource(51))
	for range 500 {
		sameWords(t, subs, someKey(r))
	}
}

// TestP5_1RoundKeys: the round key number r is four words, and just the round 14 is the last one.
func TestP5_1RoundKeys(t *testing.T) {
	k := Expand(someKey(rand.New(rand.NewSource(52))))
	for n := range 15 {
		r := k.round(n)
		for i, x := range r.key {
			if x != k.words[4*n+i/4][i%4] {
				t.Errorf("P5.1: round key %d: %x", n, r.key)
			}
		}
		if r.last != (n == 14) {
			t.Errorf("P5.2: round %d: last is %t", n, r.last)
		}
	}
}

// TestP5_1KeyIsAValue: a copy is the same, and stays when the first one becomes another.
func TestP5_1KeyIsAValue(t *testing.T) {
	r := rand.New(rand.NewSource(53))
	key, other, b := someKey(r), someKey(r), someBlock(r)
	k := Expand(key)
	copied := k
	list := [2]Key{k, Expand(other)}
	sealed := k.Block(b)
	k = Expand(other)
	if copied != Expand(key) || copied == k || list[0] != copied || list[1] != k {
		t.Errorf("P5.1: copies are not the same")
	}
	if copied.Block(b) != sealed || copied.Back(sealed) != b || list[0].Block(b) != sealed {
		t.Errorf("P5.1: copies do not tell the same")
	}
	if k.Block(b) == sealed || k.Back(sealed) == b {
		t.Errorf("P5.1: another key tells the same")
	}
}

// TestP5_1KeysInTurns: two keys that are asked in turns tell what each tells alone.
func TestP5_1KeysInTurns(t *testing.T) {
	r := rand.New(rand.NewSource(54))
	one, other := someKey(r), someKey(r)
	blocks := make([][16]byte, 20)
	for i := range blocks {
		blocks[i] = someBlock(r)
	}
	alone := func(key [32]byte) (out [][16]byte) {
		k := Expand(key)
		for _, b := range blocks {
			out = append(out, k.Block(b), k.Back(b))
		}
		return out
	}
	ones, others := alone(one), alone(other)
	k, l := Expand(one), Expand(other)
	for i, b := range blocks {
		got := [4][16]byte{k.Block(b), l.Block(b), k.Back(b), l.Back(b)}
		if got != [4][16]byte{ones[2*i], others[2*i], ones[2*i+1], others[2*i+1]} {
			t.Errorf("P5.1: block %d in turns: %x", i, got)
		}
	}
	if k != Expand(one) || l != Expand(other) {
		t.Errorf("P5.1: keys are changed by what they are asked")
	}
}

// TestP5_1EachBitOfTheKey: no two of the keys tell the same of one block.
func TestP5_1EachBitOfTheKey(t *testing.T) {
	seen := map[[16]byte][32]byte{}
	for _, key := range edgeKeys() {
		sealed := Expand(key).Block([16]byte{7})
		if before, ok := seen[sealed]; ok {
			t.Errorf("P5.1: the keys %x and %x tell the same", before, key)
		}
		seen[sealed] = key
	}
}

// TestArgumentsStay: what is handed in is not changed, and is not kept: what becomes of it later tells nothing.
func TestArgumentsStay(t *testing.T) {
	r := rand.New(rand.NewSource(55))
	key, b := someKey(r), someBlock(r)
	keyBefore, bBefore := key, b
	k := Expand(key)
	before := k
	sealed, plain := k.Block(b), k.Back(b)
	if key != keyBefore || b != bBefore || k != before {
		t.Errorf("R3: what is handed in is changed")
	}
	clear(key[:])
	if k.Block(b) != sealed || k.Back(b) != plain {
		t.Errorf("R3: the key that is handed in is kept")
	}
	first, second := k.Block(b), k.Block(b)
	clear(first[:])
	if second != sealed || k.Block(b) != sealed {
		t.Errorf("R3: answers share memory")
	}
}

// TestKeysNotExpanded: of these nothing is asked but that the calls end, without a panic.
func TestKeysNotExpanded(t *testing.T) {
	r := rand.New(rand.NewSource(56))
	keys := []Key{{}, *new(Key)}
	for range 20 {
		var k Key
		for i := range k.words {
			r.Read(k.words[i][:])
		}
		keys = append(keys, k)
	}
	for _, k := range keys {
		for _, b := range edgeBlocks() {
			k.Block(b)
			k.Back(b)
		}
	}
}
