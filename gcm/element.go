package gcm

// element is a long element: the coefficients of t^0 to t^63 are high's bits, those of t^64 to t^127 low's, the highest bit first.
type element struct {
	high, low uint64
}

// elementOf is the long element that b is.
func elementOf(b [16]byte) element {
	var e element
	for i := range 8 {
		e.high = e.high<<8 | uint64(b[i])
		e.low = e.low<<8 | uint64(b[8+i])
	}
	return e
}

// bytes is the 16 bytes that e is.
func (e element) bytes() [16]byte {
	var b [16]byte
	for i := range 8 {
		shift := 56 - 8*i
		b[i] = byte(e.high >> shift)
		b[8+i] = byte(e.low >> shift)
	}
	return b
}

func (e element) plus(other element) element {
	return element{e.high ^ other.high, e.low ^ other.low}
}

// same says whether e and other are one element.
func (e element) same(other element) bool {
	// Tags are compared by this: how long it takes must not tell how much of them was right.
	differ := e.plus(other)
	return differ.high|differ.low == 0
}

// times is the product of e and other.
func (e element) times(other element) element {
	var product element
	for i := range 128 {
		if other.has(i) {
			product = product.plus(e)
		}
		e = e.timesT()
	}
	return product
}

// has says whether the coefficient of t^i is 1.
func (e element) has(i int) bool {
	if i < 64 {
		return e.high>>(63-i)&1 != 0
	}
	return e.low>>(127-i)&1 != 0
}

// timesT is e times t. A t^128 that comes of it is t^7 + t^2 + t + 1, by which it differs from the divisor.
func (e element) timesT() element {
	next := element{e.high >> 1, e.high<<63 | e.low>>1}
	if e.has(127) {
		next.high ^= 0xe1 << 56
	}
	return next
}
