package octet

import (
	"bytes"

	"ciborium/api"
)

// Reader reads bytes, one thing behind the other, and keeps the first error: a caller reads a whole thing and asks once.
type Reader struct {
	rest []byte // what stands from the place on
	err  api.Errno
}

// Read is a reader of the bytes that b has now.
func Read(b []byte) *Reader { return &Reader{rest: bytes.Clone(b)} }

// U8 reads a number of one byte.
func (r *Reader) U8() uint8 { return uint8(r.number(1)) }

// U16 reads a number of two bytes.
func (r *Reader) U16() uint16 { return uint16(r.number(2)) }

// U32 reads a number of four bytes.
func (r *Reader) U32() uint32 { return uint32(r.number(4)) }

// U64 reads a number of eight bytes.
func (r *Reader) U64() uint64 { return r.number(8) }

// Raw reads n bytes.
func (r *Reader) Raw(n int) []byte { return bytes.Clone(r.take(n)) }

// Text reads what PutText writes.
func (r *Reader) Text() string {
	if r == nil {
		return ""
	}
	whole := r.rest
	text := string(r.take(int(r.U16())))
	if r.err != api.OK {
		// Of a text that is cut off its length is not read either.
		r.rest = whole
	}
	return text
}

// Left is how many bytes are not read yet.
func (r *Reader) Left() int {
	if r == nil {
		return 0
	}
	return len(r.rest)
}

// Err is the first error.
func (r *Reader) Err() api.Errno {
	if r == nil {
		return api.ErrNil
	}
	return r.err
}

func (r *Reader) number(width int) uint64 {
	var n uint64
	for _, c := range r.take(width) {
		n = n<<8 | uint64(c)
	}
	return n
}

// take goes behind the next n bytes; what it answers is still the reader's own memory.
func (r *Reader) take(n int) []byte {
	switch {
	case r == nil || r.err != api.OK:
		return nil
	case n < 0:
		r.err = api.ErrArg
		return nil
	case n > len(r.rest):
		r.err = api.ErrShort
		return nil
	}
	head := r.rest[:n]
	r.rest = r.rest[n:]
	return head
}
