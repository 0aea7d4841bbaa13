package share

import (
	"bytes"
	"math"
	"math/rand"
	"strings"
	"testing"

	"ciborium/api"
)

func TestP4_3Text(t *testing.T) {
	for _, x := range []struct {
		s    api.Share
		want string
	}{
		{api.Share{X: 1, Y: []byte{0x43, 0x87}}, "014387"},
		{api.Share{X: 1}, "01"},
		{api.Share{X: 0xfa, Y: []byte{0, 0x0b, 0xc0, 0xff}}, "fa000bc0ff"},
		// Text asks for no share that may be.
		{api.Share{}, "00"},
		{api.Share{Y: []byte{5}}, "0005"},
		{api.Share{X: 2, Y: make([]byte, 3000)}, "02" + strings.Repeat("00", 3000)},
	} {
		if got := Text(x.s); got != x.want {
			t.Errorf("P4.3: Text(%x): %q", x.s, got)
		}
	}
}

// TestP4_3TextLeaves: the share stays as it is, and the room behind it.
func TestP4_3TextLeaves(t *testing.T) {
	y, whole := roomy([]byte{1, 2, 3})
	want := bytes.Clone(whole)
	if got := Text(api.Share{X: 9, Y: y}); got != "09010203" || !bytes.Equal(whole, want) {
		t.Errorf("P4.3: %q; what was handed in is %x now", got, whole)
	}
}

func TestP4_3ReadExamples(t *testing.T) {
	for _, x := range []struct {
		t    string
		want api.Share
	}{
		{"014387", api.Share{X: 1, Y: []byte{0x43, 0x87}}},
		{"01", api.Share{X: 1}},
		{"ff", api.Share{X: 255}},
		{"0100", api.Share{X: 1, Y: []byte{0}}},
		{"fa000bc0ff", api.Share{X: 0xfa, Y: []byte{0, 0x0b, 0xc0, 0xff}}},
		{"02" + strings.Repeat("ab", 1024), api.Share{X: 2, Y: bytes.Repeat([]byte{0xab}, 1024)}},
	} {
		if s, e := Read(x.t); e != api.OK || !sameShare(s, x.want) {
			t.Errorf("P4.3: Read(%q): %x, %d", x.t, s, e)
		}
	}
}

func TestP4_3ReadWrong(t *testing.T) {
	long := strings.Repeat("ab", 1025)
	for _, x := range []struct {
		t string
		e api.Errno
	}{
		{"", api.ErrShort},
		// an odd number of digits
		{"0", api.ErrShort}, {"1", api.ErrShort}, {"014", api.ErrShort}, {"01438", api.ErrShort},
		// a byte that is no digit
		{"0G", api.ErrDigit}, {"0A", api.ErrDigit}, {"g", api.ErrDigit}, {"01 4", api.ErrDigit}, {"0x01", api.ErrDigit}, {"01\n", api.ErrDigit}, {"é1", api.ErrDigit}, {"\x00\x00", api.ErrDigit}, {"01438G", api.ErrDigit},
		// the place 0
		{"00", api.ErrShare}, {"0043", api.ErrShare}, {"000000", api.ErrShare},
		// too long
		{"01" + long, api.ErrLong}, {"ff" + long + long, api.ErrLong},
		// several at once
		{"0G0", api.ErrDigit}, {"00G", api.ErrDigit}, {"00g0", api.ErrDigit}, {"000", api.ErrShort}, {"00430", api.ErrShort},
		{"01" + long + "G", api.ErrDigit}, {"01" + long + "GG", api.ErrDigit}, {"01" + long + "0", api.ErrShort}, {"00" + long + "0", api.ErrShort}, {"00" + long, api.ErrShare},
	} {
		if s, e := Read(x.t); e != x.e || s.X != 0 || len(s.Y) != 0 {
			t.Errorf("P4.3: Read of %d bytes, %.8q ..: %x, %d, not %d", len(x.t), x.t, s, e, x.e)
		}
	}
}

// TestP4_3ReadNewMemory: each answer has bytes of its own.
func TestP4_3ReadNewMemory(t *testing.T) {
	first, _ := Read("014387")
	second, _ := Read("014387")
	spoil(first.Y)
	if !sameShare(second, api.Share{X: 1, Y: []byte{0x43, 0x87}}) {
		t.Errorf("P4.3: two answers share memory: %x", second)
	}
}

// TestP4_3ThereAndBack: Read of Text is the share, Text of Read the text.
func TestP4_3ThereAndBack(t *testing.T) {
	r := rand.New(rand.NewSource(46))
	for x := 1; x < 256; x++ {
		for _, size := range []int{0, 1, 2, r.Intn(1000), 1023, 1024} {
			s := api.Share{X: byte(x), Y: someBytes(r, size)}
			text := Text(s)
			back, e := Read(text)
			if e != api.OK || !sameShare(back, s) || Text(back) != text {
				t.Errorf("P4.3: place %x, %d bytes: %d", x, size, e)
			}
		}
	}
	for _, text := range []string{"01", "10", "0f", "f00d", "7fffffff", "0100000000"} {
		if s, e := Read(text); e != api.OK || Text(s) != text {
			t.Errorf("P4.3: %q there and back: %q, %d", text, Text(s), e)
		}
	}
}

func TestP4_4Need(t *testing.T) {
	all := make([]api.Share, 1000)
	for i := range all {
		all[i].X = byte(i)
	}
	for _, x := range []struct {
		xs      string
		k, want int
	}{
		{"\x01\x01\x02\x00", 3, 1}, {"\x01\x01\x02\x00", 2, 0}, {"\x01\x01\x02\x00", 1, 0}, {"\x01\x01\x02\x00", 5, 3},
		{"", 0, 0}, {"", 1, 1}, {"", 16, 16}, {"", -1, 0}, {"", math.MinInt, 0}, {"", math.MaxInt, math.MaxInt},
		{"\x00", 1, 1}, {"\x00\x00\x00", 3, 3}, {"\x00", 0, 0},
		{"\x05", 1, 0}, {"\x05", 2, 1}, {"\x05", 0, 0}, {"\x05", -3, 0}, {"\x05", math.MinInt, 0}, {"\x05", math.MinInt + 1, 0}, {"\x05", math.MaxInt, math.MaxInt - 1},
		{"\x05\x05\x05", 3, 2}, {"\xff\x01\xff\x01", 4, 2}, {"\x03\x02\x01", 3, 0}, {"\x03\x02\x01", 4, 1},
	} {
		var l []api.Share
		for i := range len(x.xs) {
			// What stands at a place does not count.
			l = append(l, api.Share{X: x.xs[i], Y: make([]byte, 700*i)})
		}
		if got := Need(l, x.k); got != x.want {
			t.Errorf("P4.4: Need(%x, %d): %d, not %d", x.xs, x.k, got, x.want)
		}
	}
	// There is no limit to how many shares there are, and all places but 0 count.
	if a, b, c := Need(all, 255), Need(all, 256), Need(all, 300); a != 0 || b != 1 || c != 45 {
		t.Errorf("P4.4: of a thousand shares: %d, %d, %d", a, b, c)
	}
}

// TestP4_4NeedLeaves: neither the list nor what is in it is written.
func TestP4_4NeedLeaves(t *testing.T) {
	l := []api.Share{{X: 3, Y: []byte{1}}, {X: 0, Y: []byte{2}}, {X: 3, Y: []byte{3}}, {X: 1, Y: []byte{4}}}
	want := cloned(l)
	if got := Need(l[:3], 4); got != 3 || !sameShares(l, want) {
		t.Errorf("P4.4: %d; the list is %x now", got, l)
	}
}
