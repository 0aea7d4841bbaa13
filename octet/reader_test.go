package octet

import (
	"bytes"
	"math"
	"strings"
	"testing"

	"ciborium/api"
)

// reads are the calls that read, so that they can be gone through: how many bytes each needs where all of them are 1, and whether its answer is zero.
var reads = []struct {
	name string
	need int
	read func(r *Reader) (zero bool)
}{
	{"U8", 1, func(r *Reader) bool { return r.U8() == 0 }},
	{"U16", 2, func(r *Reader) bool { return r.U16() == 0 }},
	{"U32", 4, func(r *Reader) bool { return r.U32() == 0 }},
	{"U64", 8, func(r *Reader) bool { return r.U64() == 0 }},
	{"Raw(3)", 3, func(r *Reader) bool { return len(r.Raw(3)) == 0 }},
	{"Raw(1)", 1, func(r *Reader) bool { return len(r.Raw(1)) == 0 }},
	{"Text", 2 + 257, func(r *Reader) bool { return r.Text() == "" }},
}

func TestP1_5Read(t *testing.T) {
	for _, n := range []int{0, 1, 2, 1000} {
		r := Read(make([]byte, n))
		if r == nil || r.Left() != n || r.Err() != api.OK {
			t.Fatalf("P1.5: a new reader of %d bytes: %d left, %d", n, r.Left(), r.Err())
		}
	}
	if r := Read(nil); r == nil || r.Left() != 0 || r.Err() != api.OK {
		t.Errorf("P1.5: a reader of nothing: %d left, %d", r.Left(), r.Err())
	}
	whole := []byte{1, 2, 3}
	r := Read(whole[:1])
	if r.Left() != 1 || r.U8() != 1 || r.U8() != 0 || r.Err() != api.ErrShort {
		t.Errorf("P1.5: the room behind a list's end is read")
	}
}

func TestP1_5WrittenLater(t *testing.T) {
	b := []byte{1, 2, 0, 1, 'a'}
	r := Read(b)
	b[0] = 9
	if got := r.U8(); got != 1 {
		t.Errorf("P1.5: what is written later counts: %d", got)
	}
	copy(b, "zzzzz")
	if got, s := r.U8(), r.Text(); got != 2 || s != "a" {
		t.Errorf("P1.5: what is written later counts: %d, %q", got, s)
	}
}

func TestP1_6Numbers(t *testing.T) {
	r := Read([]byte{1, 2, 3, 4, 5, 6, 7, 8, 9, 10, 11, 12, 13, 14, 15})
	if a, n := r.U8(), r.Left(); a != 1 || n != 14 {
		t.Errorf("P1.6: U8: %x, %d left", a, n)
	}
	if a, n := r.U16(), r.Left(); a != 0x0203 || n != 12 {
		t.Errorf("P1.6: U16: %x, %d left", a, n)
	}
	if a, n := r.U32(), r.Left(); a != 0x04050607 || n != 8 {
		t.Errorf("P1.6: U32: %x, %d left", a, n)
	}
	if a, n := r.U64(), r.Left(); a != 0x08090a0b0c0d0e0f || n != 0 || r.Err() != api.OK {
		t.Errorf("P1.6: U64: %x, %d left, %d", a, n, r.Err())
	}
	all := bytes.Repeat([]byte{0xff}, 15)
	r = Read(all)
	if a, b, c, d := r.U8(), r.U16(), r.U32(), r.U64(); a != math.MaxUint8 || b != math.MaxUint16 || c != math.MaxUint32 || d != math.MaxUint64 {
		t.Errorf("P1.6: the greatest numbers: %x, %x, %x, %x", a, b, c, d)
	}
}

func TestP1_6Raw(t *testing.T) {
	r := Read([]byte{1, 2, 3})
	if b := r.Raw(0); len(b) != 0 || r.Left() != 3 || r.Err() != api.OK {
		t.Errorf("P1.6: Raw(0): %x, %d left, %d", b, r.Left(), r.Err())
	}
	if b := r.Raw(2); !bytes.Equal(b, []byte{1, 2}) || r.Left() != 1 {
		t.Errorf("P1.6: Raw(2): %x, %d left", b, r.Left())
	}
	if b := r.Raw(1); !bytes.Equal(b, []byte{3}) || r.Left() != 0 || r.Err() != api.OK {
		t.Errorf("P1.6: Raw(1): %x, %d left, %d", b, r.Left(), r.Err())
	}
	if b := r.Raw(0); len(b) != 0 || r.Err() != api.OK {
		t.Errorf("P1.6: Raw(0) at the end: %x, %d", b, r.Err())
	}
}

func TestP1_6RawIsNewMemory(t *testing.T) {
	r := Read([]byte{1, 2, 3, 4})
	b := r.Raw(2)
	for i := range b[:cap(b)] {
		b[:cap(b)][i] = 9
	}
	if got := r.U16(); got != 0x0304 {
		t.Errorf("P1.6: what Raw answers is the reader's memory: %x", got)
	}
}

func TestP1_6Text(t *testing.T) {
	for _, n := range []int{0, 1, 255, 256, 65535} {
		s := strings.Repeat("\xfft\x00", n/3+1)[:n]
		b, _ := PutText(nil, s)
		r := Read(append(b, 5))
		if got := r.Text(); got != s || r.Left() != 1 || r.Err() != api.OK || r.U8() != 5 {
			t.Errorf("P1.6: a text of %d bytes: %d bytes, %d left, %d", n, len(got), r.Left(), r.Err())
		}
		if n == 0 {
			continue
		}
		r = Read(b[:len(b)-1])
		if got := r.Text(); got != "" || r.Left() != len(b)-1 || r.Err() != api.ErrShort {
			t.Errorf("P1.6: a text of %d bytes, cut off: %q, %d left, %d", n, got, r.Left(), r.Err())
		}
	}
}

// TestP1_6Short: at each number of bytes that is too few the answer is zero, and the place stays.
func TestP1_6Short(t *testing.T) {
	for _, x := range reads {
		for n := range x.need {
			r := Read(append([]byte{7}, bytes.Repeat([]byte{1}, n)...))
			if r.U8() != 7 {
				t.Fatalf("P1.6: U8")
			}
			if !x.read(r) || r.Left() != n || r.Err() != api.ErrShort {
				t.Errorf("P1.6: %s of %d bytes: %d left, %d", x.name, n, r.Left(), r.Err())
			}
		}
		r := Read(bytes.Repeat([]byte{1}, x.need))
		if x.read(r) || r.Left() != 0 || r.Err() != api.OK {
			t.Errorf("P1.6: %s of %d bytes: %d left, %d", x.name, x.need, r.Left(), r.Err())
		}
	}
	for _, n := range []int{2, 3, 65536, math.MaxInt32, math.MaxInt} {
		r := Read([]byte{5})
		if b := r.Raw(n); len(b) != 0 || r.Left() != 1 || r.Err() != api.ErrShort {
			t.Errorf("P1.6: Raw(%d) of one byte: %x, %d left, %d", n, b, r.Left(), r.Err())
		}
	}
}

func TestP1_6RawBelowZero(t *testing.T) {
	for _, n := range []int{-1, -2, math.MinInt32, math.MinInt} {
		for _, b := range [][]byte{nil, {5}} {
			r := Read(b)
			if got := r.Raw(n); len(got) != 0 || r.Left() != len(b) || r.Err() != api.ErrArg {
				t.Errorf("P1.6: Raw(%d) of %x: %x, %d left, %d", n, b, got, r.Left(), r.Err())
			}
		}
	}
}

// TestP1_6FirstErrorStays: behind an error all is zero, however many bytes are left, and nothing changes.
func TestP1_6FirstErrorStays(t *testing.T) {
	for _, want := range []api.Errno{api.ErrShort, api.ErrArg} {
		r := Read(bytes.Repeat([]byte{1}, 400))
		if want == api.ErrArg {
			r.Raw(-1)
		} else {
			r.Raw(401)
		}
		for range 2 {
			for _, x := range reads {
				if !x.read(r) || r.Left() != 400 || r.Err() != want {
					t.Errorf("P1.6: %s behind the error %d: %d left, %d", x.name, want, r.Left(), r.Err())
				}
			}
			if r.Raw(-1); r.Err() != want {
				t.Errorf("P1.6: Raw(-1) behind the error %d: %d", want, r.Err())
			}
			if r.Raw(500); r.Err() != want {
				t.Errorf("P1.6: Raw(500) behind the error %d: %d", want, r.Err())
			}
			if b := r.Raw(0); len(b) != 0 || r.Err() != want {
				t.Errorf("P1.6: Raw(0) behind the error %d: %x, %d", want, b, r.Err())
			}
		}
	}
}

func TestP1_6Examples(t *testing.T) {
	r := Read([]byte{0, 2, 'a', 'b', 7})
	if s, n := r.Text(), r.Left(); s != "ab" || n != 1 {
		t.Errorf("P1.6: %q, %d left", s, n)
	}
	if a, b := r.U8(), r.U8(); a != 7 || b != 0 || r.Err() != api.ErrShort || r.Left() != 0 {
		t.Errorf("P1.6: %d, %d, %d, %d left", a, b, r.Err(), r.Left())
	}
	r = Read([]byte{0, 3, 'a'})
	if s := r.Text(); s != "" || r.Left() != 3 || r.Err() != api.ErrShort || r.U16() != 0 {
		t.Errorf("P1.6: %q, %d left, %d", s, r.Left(), r.Err())
	}
	r = Read([]byte{5})
	if b := r.Raw(-1); len(b) != 0 || r.Err() != api.ErrArg || r.U8() != 0 {
		t.Errorf("P1.6: %x, %d", b, r.Err())
	}
}

func TestP1_7NilReader(t *testing.T) {
	var r *Reader
	for _, x := range reads {
		if !x.read(r) {
			t.Errorf("P1.7: %s of a nil reader is not zero", x.name)
		}
	}
	for _, n := range []int{math.MinInt, -1, 0, 1, math.MaxInt} {
		if b := r.Raw(n); len(b) != 0 {
			t.Errorf("P1.7: Raw(%d) of a nil reader: %x", n, b)
		}
	}
	if r.Left() != 0 || r.Err() != api.ErrNil {
		t.Errorf("P1.7: %d left, %d", r.Left(), r.Err())
	}
}
