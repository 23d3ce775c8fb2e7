package reals_test

import (
	"testing"

	"chaperon/api"
	"chaperon/reals"
)

// P1.5

func TestOperandsTurned(t *testing.T) {
	l := samples()
	for _, a := range l {
		for _, b := range l {
			for _, op := range []string{"+", "*"} {
				if c, d := do(t, op, a, b), do(t, op, b, a); c != d {
					t.Errorf("%x %s %x: %x, turned %x", a, op, b, c, d)
				}
			}
			if c, d := do(t, "-", a, b), do(t, "+", a, reals.Neg(b)); c != d {
				t.Errorf("%x - %x: %x, with + %x", a, b, c, d)
			}
		}
	}
}

func TestFactorsNegated(t *testing.T) {
	l := samples()
	for _, a := range l {
		for _, b := range l {
			for _, op := range []string{"*", "/"} {
				want := reals.Neg(do(t, op, a, b))
				if c, d := do(t, op, reals.Neg(a), b), do(t, op, a, reals.Neg(b)); c != want || d != want {
					t.Errorf("%x %s %x: %x and %x, not %x", a, op, b, c, d, want)
				}
			}
			if c := do(t, "*", reals.Neg(a), reals.Neg(b)); c != do(t, "*", a, b) {
				t.Errorf("%x * %x, both negated: %x", a, b, c)
			}
		}
	}
}

func TestNegatedTwice(t *testing.T) {
	for _, a := range samples() {
		if c := reals.Neg(reals.Neg(a)); c != reals.Canon(a) {
			t.Errorf("%x: %x", a, c)
		}
		want := uint64(0)
		if !finite(a) {
			want = nan
		}
		if c := do(t, "+", a, reals.Neg(a)); c != want {
			t.Errorf("%x plus its negated self: %x", a, c)
		}
	}
}

// TestOnlyNaN holds that no other NaN is ever returned, and that any NaN does what the NaN does.
func TestOnlyNaN(t *testing.T) {
	l := samples()
	for _, a := range l {
		for _, b := range l {
			for _, op := range []string{"+", "-", "*", "/"} {
				c := do(t, op, a, b)
				if isNaN(c) && c != nan || c != do(t, op, reals.Canon(a), reals.Canon(b)) {
					t.Errorf("%x %s %x: %x", a, op, b, c)
				}
			}
		}
	}
}

func TestOrderTotal(t *testing.T) {
	l := append(append(ascending(), nans()...), mixed(40)...)
	for _, a := range l {
		for _, b := range l {
			n := reals.Order(a, b)
			if n != -reals.Order(b, a) || (n == 0) != (reals.Canon(a) == reals.Canon(b)) || reals.Less(a, b) && n != -1 {
				t.Errorf("%x %x: %d", a, b, n)
			}
			for _, c := range l {
				if n <= 0 && reals.Order(b, c) <= 0 && reals.Order(a, c) > 0 {
					t.Errorf("%x %x %x", a, b, c)
				}
			}
		}
	}
}

func TestIntsThere(t *testing.T) {
	l := []int{0, 1, -1, 2, 7, -100, 1<<31 - 1, -1 << 31, 1 << 52, 1<<53 - 1, 1 << 53, -1<<53 + 1, -1 << 53}
	for _, x := range mixed(100) {
		l = append(l, int(x)>>11, int(x)>>30)
	}
	for _, n := range l {
		if m, e := reals.ToInt(reals.OfInt(n)); m != n || e != api.OK {
			t.Errorf("%d: %d, error %d", n, m, e)
		}
		for _, m := range l {
			if abs(n+m) > 1<<53 {
				continue
			}
			if c := do(t, "+", reals.OfInt(n), reals.OfInt(m)); c != reals.OfInt(n+m) {
				t.Errorf("%d + %d: %x", n, m, c)
			}
			if s, e := reals.ToInt(do(t, "-", reals.OfInt(n), reals.OfInt(-m))); s != n+m || e != api.OK {
				t.Errorf("%d + %d: %d, error %d", n, m, s, e)
			}
		}
	}
}
