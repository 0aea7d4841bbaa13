package octet

import (
	"bytes"
	"math"
	"strconv"
	"strings"
	"testing"

	"ciborium/api"
)

// someNumbers are the edges of all widths, and numbers whose bytes all differ.
var someNumbers = []uint64{0, 1, 9, 10, 127, 128, 255, 256, 258, 65535, 65536, 1<<24 - 1, 1 << 24, 0x01020304, 1<<31 - 1, 1 << 31, 1<<32 - 1, 1 << 32, 0x0102030405060708, 0xfedcba9876543210, 1<<63 - 1, 1 << 63, math.MaxUint64}

// wantBytes is n in so many bytes, told by division and not by shifts.
func wantBytes(n uint64, width int) []byte {
	out := make([]byte, width)
	for i := width - 1; i >= 0; i-- {
		out[i] = byte(n % 256)
		n /= 256
	}
	return out
}

func TestP1_1PutNumbers(t *testing.T) {
	for _, ahead := range [][]byte{nil, {}, {0x61}, {1, 2, 3}} {
		for _, n := range someNumbers {
			for _, x := range []struct {
				name  string
				width int
				got   []byte
			}{
				{"Put16", 2, Put16(ahead, uint16(n))},
				{"Put32", 4, Put32(ahead, uint32(n))},
				{"Put64", 8, Put64(ahead, n)},
			} {
				want := append(bytes.Clone(ahead), wantBytes(n, x.width)...)
				if !bytes.Equal(x.got, want) {
					t.Errorf("P1.1: %s(%x, %d): %x, not %x", x.name, ahead, n, x.got, want)
				}
			}
		}
	}
	if got := Put16([]byte{0x61}, 258); !bytes.Equal(got, []byte{0x61, 1, 2}) {
		t.Errorf("P1.1: the chapter's example: %x", got)
	}
}

func TestP1_1PutText(t *testing.T) {
	for _, n := range []int{0, 1, 2, 255, 256, 257, 65534, 65535} {
		s := strings.Repeat("x\x00\xff", n/3+1)[:n]
		got, e := PutText([]byte{7, 8}, s)
		want := append([]byte{7, 8, byte(n / 256), byte(n % 256)}, s...)
		if e != api.OK || !bytes.Equal(got, want) {
			t.Errorf("P1.1: PutText of %d bytes: %d bytes, %d", n, len(got), e)
		}
	}
	for _, n := range []int{65536, 65537, 131072, 1 << 20} {
		if got, e := PutText([]byte{7}, strings.Repeat("a", n)); len(got) != 0 || e != api.ErrLong {
			t.Errorf("P1.1: PutText of %d bytes: %d bytes, %d", n, len(got), e)
		}
	}
}

// TestP1_1NewMemory: neither b nor the room behind it is written, and two answers for one b share nothing.
func TestP1_1NewMemory(t *testing.T) {
	puts := []struct {
		name string
		put  func(b []byte) []byte
	}{
		{"Put16", func(b []byte) []byte { return Put16(b, 0x7172) }},
		{"Put32", func(b []byte) []byte { return Put32(b, 0x71727374) }},
		{"Put64", func(b []byte) []byte { return Put64(b, 0x7172737475767778) }},
		{"PutText", func(b []byte) []byte { out, _ := PutText(b, "text"); return out }},
		{"PutText of nothing", func(b []byte) []byte { out, _ := PutText(b, ""); return out }},
	}
	for _, x := range puts {
		whole := bytes.Repeat([]byte{9}, 40)
		first, second := x.put(whole[:3]), x.put(whole[:3])
		want := bytes.Clone(second)
		for i := range first[:cap(first)] {
			first[:cap(first)][i] = 0xee
		}
		if !bytes.Equal(whole, bytes.Repeat([]byte{9}, 40)) {
			t.Errorf("P1.1: %s writes into what it was handed: %x", x.name, whole)
		}
		if !bytes.Equal(second, want) {
			t.Errorf("P1.1: two answers of %s share memory", x.name)
		}
	}
}

func TestP1_2Hex(t *testing.T) {
	for _, x := range []struct {
		b    []byte
		want string
	}{
		{nil, ""}, {[]byte{}, ""}, {[]byte{0}, "00"}, {[]byte{0x0a, 0xff}, "0aff"}, {[]byte{0xf0, 0x0f}, "f00f"},
		{[]byte{0x01, 0x23, 0x45, 0x67, 0x89, 0xab, 0xcd, 0xef}, "0123456789abcdef"},
	} {
		if got := Hex(x.b); got != x.want {
			t.Errorf("P1.2: Hex(%x): %q", x.b, got)
		}
		if got, e := Unhex(x.want); e != api.OK || !bytes.Equal(got, x.b) {
			t.Errorf("P1.2: Unhex(%q): %x, %d", x.want, got, e)
		}
	}
}

func TestP1_2UnhexWrong(t *testing.T) {
	for _, x := range []struct {
		s string
		e api.Errno
	}{
		{"0", api.ErrShort}, {"f", api.ErrShort}, {"0af", api.ErrShort}, {"00000", api.ErrShort},
		{"0aF0", api.ErrDigit}, {"AA", api.ErrDigit}, {"0g", api.ErrDigit}, {"g0", api.ErrDigit}, {" 0", api.ErrDigit}, {"0x", api.ErrDigit},
		{"+1", api.ErrDigit}, {"\x00\x00", api.ErrDigit}, {"é", api.ErrDigit}, {"0_", api.ErrDigit},
		{"0g0", api.ErrDigit}, {"00g", api.ErrDigit}, {"F", api.ErrDigit}, {"g", api.ErrDigit},
	} {
		if got, e := Unhex(x.s); len(got) != 0 || e != x.e {
			t.Errorf("P1.2: Unhex(%q): %x, %d, not %d", x.s, got, e, x.e)
		}
	}
}

// TestP1_2EachByte: of all bytes just sixteen are digits, at either place.
func TestP1_2EachByte(t *testing.T) {
	const digits = "0123456789abcdef"
	for c := range 256 {
		value := strings.IndexByte(digits, byte(c))
		high, e1 := Unhex(string([]byte{byte(c), '0'}))
		low, e2 := Unhex(string([]byte{'0', byte(c)}))
		if value < 0 {
			if e1 != api.ErrDigit || e2 != api.ErrDigit || len(high)+len(low) != 0 {
				t.Errorf("P1.2: byte %x is taken for a digit: %x, %x", c, high, low)
			}
		} else if e1 != api.OK || e2 != api.OK || !bytes.Equal(high, []byte{byte(16 * value)}) || !bytes.Equal(low, []byte{byte(value)}) {
			t.Errorf("P1.2: byte %x: %x, %x", c, high, low)
		}
		if got, want := Hex([]byte{byte(c)}), digits[c/16:c/16+1]+digits[c%16:c%16+1]; got != want {
			t.Errorf("P1.2: Hex of byte %x: %q", c, got)
		}
	}
}

func TestP1_3Equal(t *testing.T) {
	lists := [][]byte{nil, {0}, {0, 0}, {1}, {1, 0}, {0, 1}, {1, 2}, {1, 2, 3}, {2, 1, 3}, {1, 2, 0x83}, {0x80}, {0xff}, bytes.Repeat([]byte{7}, 1000)}
	for i, a := range lists {
		for j, b := range lists {
			if got := Equal(a, bytes.Clone(b)); got != (i == j) {
				t.Errorf("P1.3: Equal(%x, %x): %v", a, b, got)
			}
			if Equal(a, b) != Equal(b, a) {
				t.Errorf("P1.3: Equal of %x and %x hangs on which is first", a, b)
			}
		}
	}
	if !Equal(nil, []byte{}) || !Equal([]byte{}, nil) {
		t.Errorf("P1.3: nil and empty are the same")
	}
	for i := range 100 {
		a := bytes.Repeat([]byte{5}, 100)
		b := bytes.Clone(a)
		b[i] ^= 1 << (i % 8)
		if Equal(a, b) {
			t.Errorf("P1.3: a difference at %d is not seen", i)
		}
	}
	a := []byte{1, 2, 3}
	if !Equal(a[:2], []byte{1, 2}) {
		t.Errorf("P1.3: the room behind a list's end counts")
	}
}

func TestP1_4Digits(t *testing.T) {
	for _, x := range []struct {
		n    uint64
		want string
	}{{0, "0"}, {7, "7"}, {10, "10"}, {100, "100"}, {1<<63 - 1, "9223372036854775807"}, {1 << 63, "9223372036854775808"}, {math.MaxUint64, "18446744073709551615"}} {
		if got := Digits(x.n); got != x.want {
			t.Errorf("P1.4: Digits(%d): %q", x.n, got)
		}
		if n, e := Number(x.want); n != x.n || e != api.OK {
			t.Errorf("P1.4: Number(%q): %d, %d", x.want, n, e)
		}
	}
}

func TestP1_4NumberWrong(t *testing.T) {
	for _, x := range []struct {
		s string
		e api.Errno
	}{
		{"", api.ErrShort},
		{"00", api.ErrDigit}, {"01", api.ErrDigit}, {"007", api.ErrDigit}, {"-1", api.ErrDigit}, {"+1", api.ErrDigit}, {" 1", api.ErrDigit}, {"1 ", api.ErrDigit},
		{"1_000", api.ErrDigit}, {"0x1", api.ErrDigit}, {"1e3", api.ErrDigit}, {"1.0", api.ErrDigit}, {"a", api.ErrDigit}, {"/", api.ErrDigit}, {":", api.ErrDigit},
		{"\x00", api.ErrDigit}, {"٣", api.ErrDigit}, {"1\xff", api.ErrDigit},
		{"18446744073709551616", api.ErrWide}, {"18446744073709551620", api.ErrWide}, {"20000000000000000000", api.ErrWide}, {"99999999999999999999", api.ErrWide},
		{"100000000000000000000", api.ErrWide}, {"184467440737095516150", api.ErrWide}, {strings.Repeat("9", 100000), api.ErrWide},
		{"018446744073709551616", api.ErrDigit}, {"18446744073709551616x", api.ErrDigit}, {strings.Repeat("9", 1000) + "-", api.ErrDigit},
	} {
		if n, e := Number(x.s); n != 0 || e != x.e {
			t.Errorf("P1.4: Number(%.30q): %d, %d, not %d", x.s, n, e, x.e)
		}
	}
}

// TestWhatFollowsPutAndRead: what is put one behind the other is read as itself, in its order.
func TestWhatFollowsPutAndRead(t *testing.T) {
	text := "a text\x00\xff"
	for _, n := range someNumbers {
		b := []byte("ahead")
		b = Put16(b, uint16(n))
		b, _ = PutText(b, text)
		b = Put64(b, n)
		b, _ = PutText(b, "")
		b = Put32(b, uint32(n))
		b = append(b, byte(n))
		b = append(b, "behind"...)
		r := Read(b)
		if got := string(r.Raw(5)); got != "ahead" {
			t.Fatalf("what stands ahead: %q", got)
		}
		if a, s, c := r.U16(), r.Text(), r.U64(); a != uint16(n) || s != text || c != n {
			t.Errorf("of %d: %d, %q, %d", n, a, s, c)
		}
		if s, d, f := r.Text(), r.U32(), r.U8(); s != "" || d != uint32(n) || f != uint8(n) {
			t.Errorf("of %d: %q, %d, %d", n, s, d, f)
		}
		if got := string(r.Raw(r.Left())); got != "behind" || r.Err() != api.OK || r.Left() != 0 {
			t.Errorf("what stands behind: %q, %d", got, r.Err())
		}
	}
}

func TestWhatFollowsThereAndBack(t *testing.T) {
	for _, n := range someNumbers {
		if got, e := Number(Digits(n)); got != n || e != api.OK {
			t.Errorf("Number of Digits of %d: %d, %d", n, got, e)
		}
		b := wantBytes(n, 8)
		if got, e := Unhex(Hex(b)); !bytes.Equal(got, b) || e != api.OK {
			t.Errorf("Unhex of Hex of %x: %x, %d", b, got, e)
		}
	}
}

// TestWhatFollowsOneForm goes over all texts of up to three of some bytes: what is taken is what is written.
func TestWhatFollowsOneForm(t *testing.T) {
	const some = "019afgA-/:`+ _\x00\xff"
	texts := []string{""}
	for begin := 0; len(texts[len(texts)-1]) < 3; {
		end := len(texts)
		for _, s := range texts[begin:end] {
			for i := range len(some) {
				texts = append(texts, s+some[i:i+1])
			}
		}
		begin = end
	}
	for _, s := range texts {
		if b, e := Unhex(s); e == api.OK && Hex(b) != s {
			t.Errorf("Unhex takes %q, which Hex does not write", s)
		}
		n, e := Number(s)
		if e == api.OK && Digits(n) != s {
			t.Errorf("Number takes %q, which Digits does not write", s)
		}
		if want, err := strconv.ParseUint(s, 10, 64); err == nil && strconv.FormatUint(want, 10) == s && (e != api.OK || n != want) {
			t.Errorf("Number(%q): %d, %d", s, n, e)
		}
	}
}
