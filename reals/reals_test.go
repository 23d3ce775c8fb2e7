package reals_test

import (
	"math/big"
	"testing"

	"chaperon/api"
	"chaperon/reals"
)

// Some reals by their digits.
const (
	minus   = 0x8000000000000000 // the sign; the negative zero
	one     = 0x3ff0000000000000
	two     = 0x4000000000000000
	three   = 0x4008000000000000
	half    = 0x3fe0000000000000
	least   = 0x0000000000000001 // the least above 0
	most    = 0x7fefffffffffffff // the greatest finite one
	normal  = 0x0010000000000000 // the least normal one
	inf     = 0x7ff0000000000000
	nan     = 0x7ff8000000000000
	two53   = 0x4340000000000000
	two63   = 0x43e0000000000000
	halfBit = 0x3ca0000000000000 // 2^-53: half of the last bit of 1
)

// nans returns NaNs of many kinds: quiet, signalling, of both signs, with the first and the last bits set.
func nans() []uint64 {
	return []uint64{
		nan, nan | minus, inf | 1, inf | 1 | minus, nan | 1, nan | 5 | minus, 0x7ff7ffffffffffff, 0xfff7ffffffffffff, 0x7fffffffffffffff,
		0xffffffffffffffff, 0x7ff0000100000000,
	}
}

// ascending returns reals that are no NaNs, each less than the next one, apart from both zeros, which are neighbours.
func ascending() []uint64 {
	up := []uint64{
		0, least, least + 1, normal - 1, normal, normal + 1, halfBit, half, one - 1, one, one + 1, two, three, two53 - 1, two53, two53 + 1,
		two63 - 1, two63, two63 + 1, most - 1, most, inf,
	}
	var l []uint64
	for i := len(up) - 1; i >= 0; i-- {
		l = append(l, up[i]|minus)
	}
	return append(l, up...)
}

// mixed returns n words of 64 bits, the same in each run, every eighth one near 0, 1, or the greatest ones.
func mixed(n int) []uint64 {
	near := []uint64{least, normal, one, one | minus, two53, two63, two63 | minus, most - 9}
	x := uint64(1)
	var l []uint64
	for i := range n {
		x += 0x9e3779b97f4a7c15
		z := (x ^ x>>30) * 0xbf58476d1ce4e5b9
		z = (z ^ z>>27) * 0x94d049bb133111eb
		z ^= z >> 31
		if i%8 == 0 {
			z = near[i/8%len(near)] + z%8
		}
		l = append(l, z)
	}
	return l
}

// samples returns all sorts of reals.
func samples() []uint64 {
	return append(append(ascending(), nans()...), mixed(120)...)
}

// isNaN asks the bits: all of the exponent are 1, and not all of the rest are 0.
func isNaN(a uint64) bool {
	return a>>52&0x7ff == 0x7ff && a<<12 != 0
}

func finite(a uint64) bool {
	return a>>52&0x7ff != 0x7ff
}

// exact returns the number that a finite real is, from its bits.
func exact(a uint64) *big.Rat {
	m, e := a<<12>>12, int(a>>52&0x7ff)
	if e == 0 {
		e = 1
	} else {
		m |= 1 << 52
	}
	n := new(big.Int).SetUint64(m)
	if a>>63 == 1 {
		n.Neg(n)
	}
	p := new(big.Int).Lsh(big.NewInt(1), uint(abs(e-1075)))
	if e < 1075 {
		return new(big.Rat).SetFrac(n, p)
	}
	return new(big.Rat).SetInt(n.Mul(n, p))
}

func abs(n int) int {
	return max(n, -n)
}

// do is reals.Do where an operation is right.
func do(t *testing.T, op string, a, b uint64) uint64 {
	t.Helper()
	c, e := reals.Do(op, a, b)
	if e != api.OK {
		t.Errorf("%x %s %x: error %d", a, op, b, e)
	}
	return c
}

// P1.1

func TestCanon(t *testing.T) {
	for _, a := range nans() {
		if c := reals.Canon(a); c != nan {
			t.Errorf("%x: %x", a, c)
		}
	}
	for _, a := range append(ascending(), mixed(1000)...) {
		if c := reals.Canon(a); !isNaN(a) && c != a {
			t.Errorf("%x: %x", a, c)
		}
	}
}

type row struct {
	op         string
	a, b, want uint64
}

func holdRows(t *testing.T, l []row) {
	t.Helper()
	for _, x := range l {
		if c := do(t, x.op, x.a, x.b); c != x.want {
			t.Errorf("%x %s %x is %x, not %x", x.a, x.op, x.b, c, x.want)
		}
	}
}

func TestDoPlain(t *testing.T) {
	holdRows(t, []row{
		{"+", one, one, two},
		{"-", three, one, two},
		{"*", two, half, one},
		{"/", one, two, half},
		{"-", one, two, one | minus},
		{"/", three | minus, three, one | minus},
	})
}

func TestDoZeros(t *testing.T) {
	holdRows(t, []row{
		{"+", 0, 0, 0}, {"+", 0, minus, 0}, {"+", minus, 0, 0}, {"+", minus, minus, minus},
		{"-", 0, 0, 0}, {"-", 0, minus, 0}, {"-", minus, 0, minus}, {"-", minus, minus, 0},
		{"-", one, one, 0}, {"+", one, one | minus, 0}, {"-", one | minus, one | minus, 0},
		{"*", 0, 0, 0}, {"*", minus, 0, minus}, {"*", minus, minus, 0}, {"*", minus, one, minus}, {"*", 0, one | minus, minus},
		{"/", 0, one, 0}, {"/", minus, one, minus}, {"/", 0, one | minus, minus},
		{"/", one, inf, 0}, {"/", one | minus, inf, minus}, {"/", one, inf | minus, minus},
	})
}

func TestDoInfinities(t *testing.T) {
	holdRows(t, []row{
		{"/", one, 0, inf}, {"/", one, minus, inf | minus}, {"/", one | minus, 0, inf | minus}, {"/", one | minus, minus, inf},
		{"+", inf, one, inf}, {"+", inf, inf, inf}, {"+", inf | minus, inf | minus, inf | minus},
		{"-", inf, inf | minus, inf}, {"-", one, inf, inf | minus},
		{"*", inf, one | minus, inf | minus}, {"*", inf | minus, inf | minus, inf},
		{"/", inf, 0, inf}, {"/", inf, minus, inf | minus}, {"/", inf, two | minus, inf | minus},
	})
}

func TestDoNoNumber(t *testing.T) {
	holdRows(t, []row{
		{"/", 0, 0, nan}, {"/", minus, 0, nan}, {"/", inf, inf, nan}, {"/", inf | minus, inf, nan},
		{"-", inf, inf, nan}, {"-", inf | minus, inf | minus, nan},
		{"+", inf, inf | minus, nan}, {"+", inf | minus, inf, nan},
		{"*", inf, 0, nan}, {"*", minus, inf, nan}, {"*", 0, inf | minus, nan},
	})
}

func TestDoTies(t *testing.T) {
	holdRows(t, []row{
		{"+", one, halfBit, one}, {"+", one + 1, halfBit, one + 2}, {"+", one, halfBit + 1, one + 1},
		{"-", one, halfBit - 1<<52, one}, {"-", one - 1, halfBit - 1<<52, one - 2},
		{"*", least, half, 0}, {"*", least | minus, half, minus}, {"*", least + 2, half, least + 1},
		{"/", least + 4, two, least + 1}, {"/", least, two, 0},
		{"+", two53, one, two53}, {"+", two53 + 1, one, two53 + 2}, {"+", two53 | minus, one | minus, two53 | minus},
	})
}

// TestDoEnds: half of the last bit of the greatest finite real is 2^970, the digits 7c90000000000000.
func TestDoEnds(t *testing.T) {
	holdRows(t, []row{
		{"+", most, most, inf}, {"*", most | minus, two, inf | minus}, {"/", most, half, inf},
		{"+", most, one, most}, {"+", most, 0x7c8fffffffffffff, most}, {"+", most, 0x7c90000000000000, inf},
		{"-", normal, least, normal - 1}, {"+", normal - 1, least, normal},
		{"*", least, least, 0}, {"/", normal, two, normal / 2},
	})
}

// TestDoExact holds each result against the exact one, rounded once by package big.
func TestDoExact(t *testing.T) {
	l := samples()
	for _, a := range l {
		for _, b := range l {
			if !finite(a) || !finite(b) {
				continue
			}
			x, y := exact(a), exact(b)
			holdExact(t, "+", a, b, new(big.Rat).Add(x, y))
			holdExact(t, "-", a, b, new(big.Rat).Sub(x, y))
			holdExact(t, "*", a, b, new(big.Rat).Mul(x, y))
			if y.Sign() != 0 {
				holdExact(t, "/", a, b, new(big.Rat).Quo(x, y))
			}
		}
	}
}

func holdExact(t *testing.T, op string, a, b uint64, r *big.Rat) {
	t.Helper()
	c := do(t, op, a, b)
	if r.Sign() == 0 { // package big has one zero only: tables and theorems tell which one it is
		if c != 0 && c != minus {
			t.Errorf("%x %s %x is %x, not a zero", a, op, b, c)
		}
		return
	}
	if isNaN(c) || (c>>63 == 1) != (r.Sign() < 0) || !nearest(c, r) {
		t.Errorf("%x %s %x is %x", a, op, b, c)
	}
}

// nearest reports whether no real is nearer to r than c, and of two as near ones c is the even one. An infinity stands where the next real would be.
func nearest(c uint64, r *big.Rat) bool {
	m := c &^ minus
	r = new(big.Rat).Abs(r)
	off := away(m, r)
	for _, n := range []uint64{m - 1, m + 1} {
		if n > inf { // below 0, or beyond the infinity
			continue
		}
		if d := away(n, r).Cmp(off); d < 0 || d == 0 && m&1 == 1 {
			return false
		}
	}
	return true
}

func away(a uint64, r *big.Rat) *big.Rat {
	d := new(big.Rat).Sub(exact(a), r)
	return d.Abs(d)
}

func TestDoNaN(t *testing.T) {
	for _, op := range []string{"+", "-", "*", "/"} {
		for _, a := range nans() {
			for _, b := range samples() {
				if c, d := do(t, op, a, b), do(t, op, b, a); c != nan || d != nan {
					t.Errorf("%x %s %x: %x, turned %x", a, op, b, c, d)
				}
			}
		}
	}
}

func TestDoWrong(t *testing.T) {
	for _, op := range []string{"", "%", "^", "++", "+ ", " +", "+\x00", "−", "x", "<", "==", "add"} {
		for _, a := range []uint64{one, 0, minus, inf, nan, nan | 1} {
			if c, e := reals.Do(op, a, one); c != 0 || e != api.ErrArg {
				t.Errorf("%x %q: %x, error %d", a, op, c, e)
			}
		}
	}
}

func TestNeg(t *testing.T) {
	for _, x := range [][2]uint64{
		{0, minus}, {minus, 0}, {one, one | minus}, {one | minus, one}, {least, least | minus}, {most | minus, most}, {inf, inf | minus},
		{inf | minus, inf},
	} {
		if c := reals.Neg(x[0]); c != x[1] {
			t.Errorf("%x: %x", x[0], c)
		}
	}
	for _, a := range nans() {
		if c := reals.Neg(a); c != nan {
			t.Errorf("%x: %x", a, c)
		}
	}
}

// P1.2

func TestCompared(t *testing.T) {
	l := ascending()
	for i, a := range l {
		for k, b := range l {
			zeros := a<<1 == 0 && b<<1 == 0
			if less := reals.Less(a, b); less != (i < k && !zeros) {
				t.Errorf("%x < %x: %v", a, b, less)
			}
			if equal := reals.Equal(a, b); equal != (i == k || zeros) {
				t.Errorf("%x = %x: %v", a, b, equal)
			}
		}
	}
}

func TestComparedNaN(t *testing.T) {
	for _, a := range nans() {
		for _, b := range samples() {
			if reals.Less(a, b) || reals.Less(b, a) || reals.Equal(a, b) || reals.Equal(b, a) {
				t.Errorf("%x %x", a, b)
			}
		}
	}
}

func TestOrder(t *testing.T) {
	l := append(ascending(), nan)
	for i, a := range l {
		for k, b := range l {
			want := 0
			if i < k {
				want = -1
			} else if i > k {
				want = 1
			}
			if n := reals.Order(a, b); n != want {
				t.Errorf("%x %x: %d", a, b, n)
			}
		}
	}
	for _, a := range nans() {
		for _, b := range nans() {
			if n := reals.Order(a, b); n != 0 {
				t.Errorf("%x %x: %d", a, b, n)
			}
		}
		for _, b := range ascending() {
			if n, m := reals.Order(a, b), reals.Order(b, a); n != 1 || m != -1 {
				t.Errorf("%x %x: %d, turned %d", a, b, n, m)
			}
		}
	}
}

// P1.3

func TestOfInt(t *testing.T) {
	for _, x := range []struct {
		n    int
		want uint64
	}{
		{0, 0}, {1, one}, {-1, one | minus}, {3, three}, {1<<53 - 1, two53 - 1}, {1 << 53, two53}, {1<<53 + 1, two53},
		{1<<53 + 2, two53 + 1}, {1<<53 + 3, two53 + 2}, {-1<<53 - 1, two53 | minus}, {-1<<53 - 3, two53 | minus + 2},
		{1<<62 + 1<<9, 0x43d0000000000000}, {1<<62 + 1<<9 + 1, 0x43d0000000000001}, {1<<62 + 3<<9, 0x43d0000000000002},
		{1<<63 - 513, two63 - 1}, {1<<63 - 512, two63}, {1<<63 - 1, two63}, {-1 << 63, two63 | minus}, {-1<<63 + 512, two63 | minus},
		{-1<<63 + 513, two63 | minus - 1},
	} {
		if a := reals.OfInt(x.n); a != x.want {
			t.Errorf("%d: %x", x.n, a)
		}
	}
}

func TestOfIntExact(t *testing.T) {
	for _, x := range mixed(1000) {
		for _, n := range []int{int(x), int(x) >> 5, int(x) >> 10, int(x)>>11<<10 + 1<<9} {
			if n == 0 {
				continue
			}
			r := new(big.Rat).SetInt64(int64(n))
			if a := reals.OfInt(n); (a>>63 == 1) != (n < 0) || !nearest(a, r) {
				t.Errorf("%d: %x", n, a)
			}
		}
	}
}

func TestToInt(t *testing.T) {
	for _, x := range []struct {
		a    uint64
		want int
		e    api.Errno
	}{
		{0, 0, api.OK}, {minus, 0, api.OK}, {one, 1, api.OK}, {one | minus, -1, api.OK}, {least, 0, api.OK}, {least | minus, 0, api.OK},
		{one - 1, 0, api.OK}, {(one - 1) | minus, 0, api.OK}, {two - 1, 1, api.OK}, {(two - 1) | minus, -1, api.OK},
		{0x4004000000000000, 2, api.OK}, {0xc004000000000000, -2, api.OK}, {two53 + 1, 1<<53 + 2, api.OK},
		{two63 - 1, 1<<63 - 1024, api.OK}, {two63, 0, api.ErrRange}, {two63 + 1, 0, api.ErrRange},
		{two63 | minus - 1, -1<<63 + 1024, api.OK}, {two63 | minus, -1 << 63, api.OK}, {two63 | minus + 1, 0, api.ErrRange},
		{most, 0, api.ErrRange}, {most | minus, 0, api.ErrRange}, {inf, 0, api.ErrRange}, {inf | minus, 0, api.ErrRange},
	} {
		if n, e := reals.ToInt(x.a); n != x.want || e != x.e {
			t.Errorf("%x: %d, error %d", x.a, n, e)
		}
	}
	for _, a := range nans() {
		if n, e := reals.ToInt(a); n != 0 || e != api.ErrRange {
			t.Errorf("%x: %d, error %d", a, n, e)
		}
	}
}

// P1.4

func TestText(t *testing.T) {
	for _, x := range []struct {
		a    uint64
		want string
	}{
		{0, "0000000000000000"}, {minus, "8000000000000000"}, {one, "3ff0000000000000"}, {least, "0000000000000001"},
		{0x0123456789abcdef, "0123456789abcdef"}, {inf, "7ff0000000000000"}, {inf | minus, "fff0000000000000"},
		{most | minus, "ffefffffffffffff"}, {normal, "0010000000000000"},
	} {
		if s := reals.Text(x.a); s != x.want {
			t.Errorf("%x: %s", x.a, s)
		}
	}
	for _, a := range nans() {
		if s := reals.Text(a); s != "7ff8000000000000" {
			t.Errorf("%x: %s", a, s)
		}
	}
}

func TestRead(t *testing.T) {
	for _, x := range []struct {
		s    string
		want uint64
	}{
		{"0000000000000000", 0}, {"8000000000000000", minus}, {"3ff0000000000000", one}, {"0123456789abcdef", 0x0123456789abcdef},
		{"fff0000000000000", inf | minus}, {"7ff8000000000000", nan}, {"7ff0000000000001", nan}, {"fff8000000000000", nan},
		{"ffffffffffffffff", nan},
	} {
		if a, e := reals.Read(x.s); a != x.want || e != api.OK {
			t.Errorf("%s: %x, error %d", x.s, a, e)
		}
	}
}

func TestReadWrong(t *testing.T) {
	for _, s := range []string{
		"", "0", "1", "000000000000000", "00000000000000000", "800000000000000G", "800000000000000g", "3FF0000000000000",
		"3ff000000000000F", "3ff00000000000 0", " 3ff000000000000", "3ff000000000000\n", "+3ff000000000000", "-3ff000000000000",
		"0x3ff00000000000", "3ff0_00000000000", "3ff000000000000/", "3ff000000000000:", "3ff000000000000`", "3ff000000000000\x00",
		"3ff000000000000\xff", "3ff0000000000.00", "３ff00000000000", "3ff0000000000é0", "NaN",
	} {
		if a, e := reals.Read(s); a != 0 || e != api.ErrForm {
			t.Errorf("%q: %x, error %d", s, a, e)
		}
	}
	for c := range 256 {
		s := "000000000000000" + string([]byte{byte(c)})
		digit := c >= '0' && c <= '9' || c >= 'a' && c <= 'f'
		if _, e := reals.Read(s); (e == api.OK) != digit {
			t.Errorf("%q: error %d", s, e)
		}
	}
}

func TestReadOfText(t *testing.T) {
	for _, a := range samples() {
		if b, e := reals.Read(reals.Text(a)); b != reals.Canon(a) || e != api.OK {
			t.Errorf("%x: %x, error %d", a, b, e)
		}
	}
}
