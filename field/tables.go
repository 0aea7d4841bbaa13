package field

// order is how many powers of 3 there are: all elements but 0.
const order = 255

// powersOf3 tells 3^0 to 3^254, each with its number.
func powersOf3(yield func(n int, p byte) bool) {
	p := byte(1)
	for n := range order {
		if !yield(n, p) {
			return
		}
		// 3 is t + 1.
		p = Add(p, timesT(p))
	}
}

// tables turn products into sums: each element but 0 is a power of 3, and its logarithm is which one.
type tables struct {
	logs   [order + 1]byte // by element; that of 0 is never asked for
	powers [order]byte     // by logarithm
}

func newTables() *tables {
	t := &tables{}
	for n, p := range powersOf3 {
		t.logs[p] = byte(n)
		t.powers[n] = p
	}
	return t
}

// log is the logarithm of a, which is not 0.
func (t *tables) log(a byte) int { return int(t.logs[a]) }

// power is 3^n, with n at least 0.
func (t *tables) power(n int) byte { return t.powers[n%order] }

// weight is the product, over all places but x, of each divided by its sum with x: what the value at x counts for at 0.
func (t *tables) weight(places []byte, x byte) byte {
	sum := 0
	for _, other := range places {
		if other != x {
			sum += order + t.log(other) - t.log(Add(other, x))
		}
	}
	return t.power(sum)
}
