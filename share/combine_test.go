package share

import (
	"bytes"
	"math/rand"
	"testing"

	"ciborium/api"
)

func TestP4_2CombineExamples(t *testing.T) {
	l := []api.Share{{X: 1, Y: []byte{0x43, 0x87}}, {X: 2, Y: []byte{0x40, 0x1c}}, {X: 3, Y: []byte{0x41, 0x9c}}}
	for _, x := range []struct {
		l    []api.Share
		want []byte
	}{
		{[]api.Share{l[2], l[0]}, []byte{0x42, 7}},
		{[]api.Share{l[0], l[2]}, []byte{0x42, 7}},
		{l, []byte{0x42, 7}},
		{l[1:2], []byte{0x40, 0x1c}},
		{[]api.Share{{X: 255, Y: []byte{9}}}, []byte{9}},
		{[]api.Share{{X: 7}}, nil},
		{[]api.Share{{X: 7}, {X: 200, Y: []byte{}}}, nil},
	} {
		if b, e := Combine(x.l); e != api.OK || !bytes.Equal(b, x.want) {
			t.Errorf("P4.2: Combine(%x): %x, %d", x.l, b, e)
		}
	}
}

// sharesOf are shares at places that stand anywhere, and the values there of polynomials with the coefficients c, one a byte.
func sharesOf(c [][]byte, xs []byte) []api.Share {
	var l []api.Share
	for _, x := range xs {
		s := api.Share{X: x}
		for j := range c {
			s.Y = append(s.Y, valueAt(c[j], x))
		}
		l = append(l, s)
	}
	return l
}

// TestP4_2CombineAnywhere: any places but 0 may be, and any bytes: there is a polynomial through them.
func TestP4_2CombineAnywhere(t *testing.T) {
	r := rand.New(rand.NewSource(43))
	for round := range 400 {
		n := round%api.MaxShares + 1
		var c [][]byte
		var want []byte
		for range r.Intn(9) {
			c = append(c, someBytes(r, n))
			want = append(want, c[len(c)-1][0])
		}
		l := sharesOf(c, somePlaces(r, n))
		if b, e := Combine(l); e != api.OK || !bytes.Equal(b, want) {
			t.Errorf("P4.2: Combine(%x): %x, %d, not %x", l, b, e, want)
		}
	}
}

// TestP4_2CombineGreat: MaxShares shares of MaxSecret bytes may be.
func TestP4_2CombineGreat(t *testing.T) {
	r := rand.New(rand.NewSource(44))
	xs := somePlaces(r, api.MaxShares)
	l := make([]api.Share, len(xs))
	for i, x := range xs {
		l[i] = api.Share{X: x, Y: someBytes(r, api.MaxSecret)}
	}
	b, e := Combine(l)
	if e != api.OK || len(b) != api.MaxSecret {
		t.Fatalf("P4.2: %d bytes, %d", len(b), e)
	}
	for j := range b {
		var ys []byte
		for _, s := range l {
			ys = append(ys, s.Y[j])
		}
		if want := through(xs, ys)[0]; b[j] != want {
			t.Errorf("P4.2: byte %d: %x, not %x", j, b[j], want)
		}
	}
}

// parts are shares at these places, all of so many bytes.
func parts(size int, xs ...byte) []api.Share {
	l := []api.Share{}
	for _, x := range xs {
		l = append(l, api.Share{X: x, Y: make([]byte, size)})
	}
	return l
}

func TestP4_2CombineWrong(t *testing.T) {
	sixteen := []byte{1, 2, 3, 4, 5, 6, 7, 8, 9, 10, 11, 12, 13, 14, 15, 16}
	join := func(l ...[]api.Share) (out []api.Share) {
		for _, some := range l {
			out = append(out, some...)
		}
		return out
	}
	for _, x := range []struct {
		name string
		l    []api.Share
		e    api.Errno
	}{
		{"nil", nil, api.ErrArg},
		{"none", []api.Share{}, api.ErrArg},
		{"seventeen", parts(1, append(sixteen, 17)...), api.ErrArg},
		{"seventeen of nothing", make([]api.Share, 17), api.ErrArg},
		{"a long one", parts(1025, 1), api.ErrLong},
		{"two long ones", parts(1025, 1, 2), api.ErrLong},
		{"the place 0", parts(1, 0), api.ErrShare},
		{"the place 0 and no bytes", parts(0, 0), api.ErrShare},
		{"the place 0 at the end", parts(1, 1, 2, 0), api.ErrShare},
		{"the place 0 in the midst", parts(1, 1, 0, 2), api.ErrShare},
		{"one place twice", parts(1, 1, 1), api.ErrShare},
		{"one place twice, and no bytes", parts(0, 9, 9), api.ErrShare},
		{"one place twice, far apart", parts(3, append(sixteen[:15:15], 1)...), api.ErrShare},
		{"the place 255 twice", parts(1, 255, 3, 255), api.ErrShare},
		{"one place with other bytes", []api.Share{{X: 1, Y: []byte{0x42}}, {X: 1, Y: []byte{0x43}}}, api.ErrShare},
		{"the second without bytes", join(parts(1, 1), parts(0, 2)), api.ErrShare},
		{"the first without bytes", join(parts(0, 1), parts(1, 2)), api.ErrShare},
		{"the last is longer", join(parts(4, 1, 2), parts(5, 3)), api.ErrShare},
		{"the last is shorter", join(parts(4, 1, 2), parts(3, 3)), api.ErrShare},
		{"the midst is shorter", join(parts(4, 1), parts(3, 2), parts(4, 3)), api.ErrShare},
		// several at once
		{"seventeen, long and with 0", parts(1025, append(sixteen, 0)...), api.ErrArg},
		{"long, with 0", parts(1025, 0), api.ErrLong},
		{"long, one place twice", parts(1025, 1, 1), api.ErrLong},
		{"the place 0, and a long one behind it", join(parts(1, 0), parts(1025, 2)), api.ErrLong},
		{"one of two is long", join(parts(1024, 1), parts(1025, 2)), api.ErrLong},
		// what may just be
		{"sixteen", parts(1, sixteen...), api.OK},
		{"of MaxSecret bytes", parts(1024, 1, 255), api.OK},
		{"one without bytes", parts(0, 1), api.OK},
	} {
		b, e := Combine(x.l)
		if e != x.e || e != api.OK && len(b) != 0 || e == api.OK && len(b) != len(x.l[0].Y) {
			t.Errorf("P4.2: %s: %x, %d, not %d", x.name, b, e, x.e)
		}
	}
}

// TestP4_2CombineLeaves: what is handed in stays as it is, the rooms behind the ends too, and shares nothing with the answer.
func TestP4_2CombineLeaves(t *testing.T) {
	r := rand.New(rand.NewSource(45))
	for n := 1; n <= 4; n++ {
		var whole []api.Share
		var parts, want [][]byte
		for i := range n + 3 {
			y, all := roomy(someBytes(r, 5))
			whole = append(whole, api.Share{X: byte(i + 1), Y: y})
			parts, want = append(parts, all), append(want, bytes.Clone(all))
		}
		list := cloned(whole)
		first, e1 := Combine(whole[:n])
		second, e2 := Combine(whole[:n])
		told := bytes.Clone(first)
		spoil(first)
		if e1 != api.OK || e2 != api.OK || !bytes.Equal(second, told) {
			t.Errorf("P4.2: two answers: %x, then %x, %d, %d", told, second, e1, e2)
		}
		if !sameShares(whole, list) {
			t.Errorf("P4.2: the list that was handed in is written: %x", whole)
		}
		for i := range parts {
			if !bytes.Equal(parts[i], want[i]) {
				t.Errorf("P4.2: the part %d that was handed in is written: %x", i, parts[i])
			}
		}
	}
}
