package ints_test

import (
	"testing"

	"chaperon/api"
	"chaperon/ints"
)

// P2.3

// few returns samples that are few enough for triples of them.
func few() []int {
	return []int{0, 1, -1, 2, -3, 10, -10, 1 << 31, -1 << 32, 3037000500, -6148914691236517205, 1 << 62, -1 << 62, most - 1, most, least + 1, least}
}

func TestRing(t *testing.T) {
	for _, a := range samples() {
		if n := do(t, "+", a, 0); n != a {
			t.Errorf("%d + 0: %d", a, n)
		}
		if n := do(t, "*", a, 1); n != a {
			t.Errorf("%d * 1: %d", a, n)
		}
		if n := do(t, "+", a, ints.Neg(a)); n != 0 {
			t.Errorf("%d plus its negated self: %d", a, n)
		}
		if n := ints.Neg(ints.Neg(a)); n != a {
			t.Errorf("%d negated twice: %d", a, n)
		}
	}
}

func TestOperandsTurned(t *testing.T) {
	l := samples()
	for _, a := range l {
		for _, b := range l {
			for _, op := range []string{"+", "*"} {
				if n, m := do(t, op, a, b), do(t, op, b, a); n != m {
					t.Errorf("%d %s %d: %d, turned %d", a, op, b, n, m)
				}
			}
			if n, m := do(t, "-", a, b), do(t, "+", a, ints.Neg(b)); n != m {
				t.Errorf("%d - %d: %d, with + %d", a, b, n, m)
			}
			if n, m := do(t, "*", ints.Neg(a), b), ints.Neg(do(t, "*", a, b)); n != m {
				t.Errorf("%d * %d, negated: %d and %d", a, b, n, m)
			}
		}
	}
}

func TestRingOfThree(t *testing.T) {
	for _, a := range few() {
		for _, b := range few() {
			for _, c := range few() {
				for _, op := range []string{"+", "*"} {
					if n, m := do(t, op, do(t, op, a, b), c), do(t, op, a, do(t, op, b, c)); n != m {
						t.Errorf("%d %s %d %s %d: %d and %d", a, op, b, op, c, n, m)
					}
				}
				sums, products := do(t, "*", a, do(t, "+", b, c)), do(t, "+", do(t, "*", a, b), do(t, "*", a, c))
				if sums != products {
					t.Errorf("%d * (%d + %d): %d and %d", a, b, c, sums, products)
				}
			}
		}
	}
}

func TestDivided(t *testing.T) {
	l := samples()
	for _, a := range l {
		for _, b := range l {
			if b == 0 {
				continue
			}
			q, r := do(t, "/", a, b), do(t, "%", a, b)
			if n := do(t, "+", do(t, "*", q, b), r); n != a {
				t.Errorf("%d by %d: %d and %d make %d", a, b, q, r, n)
			}
			if size(r) >= size(b) {
				t.Errorf("%d %% %d: %d", a, b, r)
			}
			if r != 0 && (r < 0) != (a < 0) {
				t.Errorf("%d %% %d: %d has not the dividend's sign", a, b, r)
			}
		}
	}
}

// size returns the absolute value, which is no int for -2^63.
func size(n int) uint64 {
	if n < 0 {
		return -uint64(n)
	}
	return uint64(n)
}

func TestReadOfText(t *testing.T) {
	for _, n := range samples() {
		if m, e := ints.Read(ints.Text(n)); m != n || e != api.OK {
			t.Errorf("%d: %d, error %d", n, m, e)
		}
	}
}

// TestOnlyText reads every text of up to five letters, most of which are no text of an int.
func TestOnlyText(t *testing.T) {
	l := []string{""}
	for i := 0; i < len(l); i++ {
		s := l[i]
		if n, e := ints.Read(s); e == api.OK && ints.Text(n) != s {
			t.Errorf("%q is read as %d", s, n)
		}
		if len(s) == 5 {
			continue
		}
		for _, c := range "-+019 x" {
			l = append(l, s+string(c))
		}
	}
}
