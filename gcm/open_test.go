package gcm

import (
	"bytes"
	"math/rand"
	"testing"

	"ciborium/api"
)

// opens: Open answers the plain bytes.
func opens(t *testing.T, x example) {
	t.Helper()
	if got, e := Open(x.key, x.nonce, x.ad, x.sealed); e != api.OK || !bytes.Equal(got, x.plain) {
		t.Errorf("P6.2: %s: ad of %d, sealed of %d bytes: %d bytes, %d", x.name, len(x.ad), len(x.sealed), len(got), e)
	}
}

// refuses: Open answers that error, and nothing else.
func refuses(t *testing.T, x example, want api.Errno) {
	t.Helper()
	if got, e := Open(x.key, x.nonce, x.ad, x.sealed); e != want || len(got) != 0 {
		t.Errorf("P6.2: %s: ad of %d, sealed of %d bytes: %d bytes, %d, not %d", x.name, len(x.ad), len(x.sealed), len(got), e, want)
	}
}

func TestP6_2OpenExamples(t *testing.T) {
	for _, x := range examples(t) {
		opens(t, x)
	}
	x := examples(t)[1]
	x.ad = []byte{0}
	refuses(t, x, api.ErrTag)
	x.ad = []byte{7}
	refuses(t, x, api.ErrTag)
	x.ad = nil
	x.sealed = x.sealed[:15]
	refuses(t, x, api.ErrShort)
}

// libraryMade is what the library seals, of so many bytes.
func libraryMade(r *rand.Rand, name string, adSize, plainSize int) example {
	x := example{name: name, key: someKey(r), nonce: someNonce(r), ad: someBytes(r, adSize), plain: someBytes(r, plainSize)}
	x.sealed = librarySeal(x.key, x.nonce, x.ad, x.plain)
	return x
}

func TestP6_2OpenSizes(t *testing.T) {
	r := rand.New(rand.NewSource(69))
	for _, adSize := range someSizes() {
		for _, plainSize := range someSizes() {
			opens(t, libraryMade(r, "the library's", adSize, plainSize))
		}
	}
}

// TestP6_2OpenShort: fewer than 16 bytes are too few, whatever they are; 16 are a tag.
func TestP6_2OpenShort(t *testing.T) {
	x := examples(t)[0]
	whole := x.sealed
	for n := range 16 {
		x.sealed = whole[:n]
		refuses(t, x, api.ErrShort)
		x.sealed = make([]byte, n)
		refuses(t, x, api.ErrShort)
	}
	x.sealed = nil
	refuses(t, x, api.ErrShort)
	x.sealed = make([]byte, 16)
	refuses(t, x, api.ErrTag)
}

// TestP6_2OpenGreat: at the limits what is sealed opens; beyond them the right tag is of no use.
func TestP6_2OpenGreat(t *testing.T) {
	r := rand.New(rand.NewSource(70))
	const most = 65536
	for _, x := range [][2]int{{0, most}, {most, 0}, {most, most}, {most - 1, most - 1}} {
		opens(t, libraryMade(r, "at the limit", x[0], x[1]))
	}
	for _, x := range [][2]int{
		{0, most + 1}, {most + 1, 0}, {most + 1, most + 1}, {most, most + 1}, {most + 1, most}, {0, most + 16}, {2 * most, 0}, {0, 2 * most},
	} {
		refuses(t, libraryMade(r, "beyond the limit", x[0], x[1]), api.ErrLong)
	}
}

// TestP6_2OpenOrder: too short goes ahead of too long, and that of a wrong tag.
func TestP6_2OpenOrder(t *testing.T) {
	long := make([]byte, api.MaxSealed+17)
	for _, x := range []struct {
		name       string
		ad, sealed []byte
		want       api.Errno
	}{
		{"short, ad long", long, nil, api.ErrShort},
		{"short by one, ad long by one", long[:api.MaxSealed+1], long[:15], api.ErrShort},
		{"ad long, a wrong tag", long[:api.MaxSealed+1], long[:16], api.ErrLong},
		{"sealed long, a wrong tag", nil, long, api.ErrLong},
		{"both long", long, long, api.ErrLong},
		{"sealed at the limit, a wrong tag", nil, long[:api.MaxSealed+16], api.ErrTag},
		{"ad at the limit, a wrong tag", long[:api.MaxSealed], long[:16], api.ErrTag},
	} {
		refuses(t, example{name: x.name, ad: x.ad, sealed: x.sealed}, x.want)
	}
}

// TestP6_2OpenCut: neither with bytes less or more, at either end, nor with the line between ad and text elsewhere.
func TestP6_2OpenCut(t *testing.T) {
	r := rand.New(rand.NewSource(71))
	for _, size := range []int{1, 15, 16, 17, 32, 40} {
		whole := libraryMade(r, "cut", size, size)
		x := whole
		for n := 16; n < len(whole.sealed); n++ {
			x.sealed = whole.sealed[:n]
			refuses(t, x, api.ErrTag)
			x.sealed = whole.sealed[len(whole.sealed)-n:]
			refuses(t, x, api.ErrTag)
		}
		text, tag := whole.sealed[:size], whole.sealed[size:]
		x.sealed = bytes.Join([][]byte{text, {0}, tag}, nil)
		refuses(t, x, api.ErrTag)
		x.sealed = bytes.Join([][]byte{whole.sealed, {0}}, nil)
		refuses(t, x, api.ErrTag)
		x.sealed = whole.sealed
		for n := range size {
			x.ad = whole.ad[:n]
			refuses(t, x, api.ErrTag)
		}
		x.ad = append(bytes.Clone(whole.ad), 0)
		refuses(t, x, api.ErrTag)
		x.ad, x.sealed = append(bytes.Clone(whole.ad), text...), tag
		refuses(t, x, api.ErrTag)
		x.ad, x.sealed = nil, append(bytes.Clone(whole.ad), whole.sealed...)
		refuses(t, x, api.ErrTag)
	}
}

// TestP6_2OpenOtherKey: each bit of the key counts.
func TestP6_2OpenOtherKey(t *testing.T) {
	r := rand.New(rand.NewSource(72))
	x := libraryMade(r, "another key", 5, 20)
	for i := range 256 {
		x.key[i/8] ^= 1 << (i % 8)
		refuses(t, x, api.ErrTag)
		x.key[i/8] ^= 1 << (i % 8)
	}
	opens(t, x)
}

// TestP6_2OpenNil: nil and empty lists are the same.
func TestP6_2OpenNil(t *testing.T) {
	r := rand.New(rand.NewSource(73))
	x := libraryMade(r, "without ad", 0, 20)
	x.ad = nil
	opens(t, x)
	x.ad = []byte{}
	opens(t, x)
}
