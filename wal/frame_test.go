package wal

import (
	"encoding/binary"
	"encoding/hex"
	"hash/crc32"
	"math/rand"
	"testing"

	"ciborium/api"
	"ciborium/disk"
)

// slow is the check as the chapter's words have it, bit by bit.
func slow(s api.Sector) uint32 {
	register := uint32(0xffffffff)
	for _, b := range s {
		register ^= uint32(b)
		for range 8 {
			out := register & 1
			register >>= 1
			if out == 1 {
				register ^= 0x82f63b78
			}
		}
	}
	return ^register
}

// TestP8_7CheckKnown: the check of known bytes.
func TestP8_7CheckKnown(t *testing.T) {
	var zero, ones, rising, one api.Sector
	for i := range ones {
		ones[i], rising[i] = 0xff, byte(i)
	}
	one[511] = 1
	for _, x := range []struct {
		s    api.Sector
		want uint32
	}{{zero, 0x30fcedc0}, {ones, 0x5bd99297}, {rising, 0xae10ee5a}, {one, 0xc2976ec3}} {
		if got := check(x.s); got != x.want {
			t.Errorf("the check of %x..: %08x, not %08x", x.s[:4], got, x.want)
		}
	}
}

// TestP8_7CheckAny: the check of sectors that are drawn, and of each single byte in each place, against the chapter's words and the library's.
func TestP8_7CheckAny(t *testing.T) {
	r := rand.New(rand.NewSource(8))
	castagnoli := crc32.MakeTable(crc32.Castagnoli)
	holds := func(s api.Sector) {
		t.Helper()
		if got, want := check(s), crc32.Checksum(s[:], castagnoli); got != want || want != slow(s) {
			t.Fatalf("the check of %x: %08x, not %08x", s, got, want)
		}
	}
	for range 300 {
		var s api.Sector
		r.Read(s[:])
		holds(s)
	}
	for b := range 256 {
		var s api.Sector
		s[(b*37)%512] = byte(b)
		holds(s)
	}
	for i := range 512 {
		var s api.Sector
		s[i] = byte(i%255 + 1)
		holds(s)
	}
}

// TestP8_1HeadBytes: the head that Format writes, byte by byte, and a home.
func TestP8_1HeadBytes(t *testing.T) {
	d, _ := disk.New(12)
	answers(t, "P8.1: Format", Format(d, 5), api.OK)
	starts := func(i int, want string) {
		t.Helper()
		s, _ := d.Read(i)
		b, _ := hex.DecodeString(want)
		if hex.EncodeToString(s[:len(b)]) != want || !zeros(s[len(b):]) {
			t.Errorf("P8.1: in sector %d stand %x, not %s and zeros", i, s, want)
		}
	}
	starts(1, "6369626f"+"01"+"000000"+"0000000000000001"+"0000000000000000"+"00000000"+"6c6892ce"+"00000005"+"00000005")
	var s api.Sector
	copy(s[:], "cibo\x05")
	s[15], s[27] = 1, 4
	sum := make([]byte, 4)
	binary.BigEndian.PutUint32(sum, slow(s))
	starts(11, "6369626f"+"05"+"000000"+"0000000000000001"+"0000000000000000"+"00000004"+hex.EncodeToString(sum))
}

// TestFrame: frames of all kinds, as the table has them, with numbers of all their bytes.
func TestFrame(t *testing.T) {
	const g, s = 0x0102030405060708, 0x1112131415161718
	x := of('X')
	got := frame(title{imageKind, g, s, 0x21222324}, x)
	want := "6369626f03000000010203040506070811121314151617182122232400000000"
	b, _ := hex.DecodeString(want)
	var sector api.Sector
	copy(sector[:], b)
	copy(sector[32:], x[:])
	binary.BigEndian.PutUint32(sector[28:], slow(sector))
	if got != sector {
		t.Errorf("a frame: %x, not %x", got[:32], sector[:32])
	}
	if pageIn(got) != x || generationIn(got) != g || indexIn(got) != 0x21222324 {
		t.Errorf("what is read of a frame: %x, %x", generationIn(got), indexIn(got))
	}
	w := to('W', 3, 0x12345, 0)
	for i, f := range recordOf(g, s, w) {
		if f != castRecord(g, s, w)[i] {
			t.Errorf("frame %d of a record: %x", i, f)
		}
	}
	if len(recordOf(g, s, w)) != 5 {
		t.Errorf("a record of three images has %d frames", len(recordOf(g, s, w)))
	}
	if y := (layout{5, 7}); y.head(g) != castHead(g, 5, 7) || homeFrame(g, 9, x) != castHome(g, 9, x) {
		t.Errorf("a head: %x, a home: %x", y.head(g), homeFrame(g, 9, x))
	}
}

// TestErrors: the numbers that the chapter names, and its limits.
func TestErrors(t *testing.T) {
	for _, x := range []struct{ got, want api.Errno }{{api.ErrNil, 1}, {api.ErrArg, 2}, {api.ErrDead, 6}, {api.ErrNoLog, 80}, {api.ErrRot, 81}, {api.ErrBig, 82}} {
		answers(t, "an error's number", x.got, x.want)
	}
	if api.PageBytes != 480 || api.HeadBytes != 32 || api.MaxLog != 4000 || api.MaxImages != 120 {
		t.Errorf("the limits: %d, %d, %d, %d", api.PageBytes, api.HeadBytes, api.MaxLog, api.MaxImages)
	}
}
