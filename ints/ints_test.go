package ints_test

import (
	"math/big"
	"strings"
	"testing"

	"chaperon/api"
	"chaperon/ints"
)

// The ends of the range.
const (
	least = -1 << 63
	most  = 1<<63 - 1
)

// samples returns ints of all sizes and both signs, each once: powers of 2 and of 10 with their neighbours, the ends of the range among them, and some between.
func samples() []int {
	near := []int{0, 7, 12, 123456789, 3037000499, 6148914691236517205, 1311768467463790320}
	for k := 0; k < 64; k += 3 {
		near = append(near, 1<<k)
	}
	for p := 10; p < most/10; p *= 10 {
		near = append(near, p, 10*p)
	}
	seen := map[int]bool{}
	var l []int
	for _, n := range near {
		for d := -1; d <= 1; d++ {
			for _, x := range []int{n + d, -(n + d)} {
				if !seen[x] {
					seen[x] = true
					l = append(l, x)
				}
			}
		}
	}
	return l
}

// wrap returns x, with as many times 2^64 subtracted or added as necessary.
func wrap(x *big.Int) int {
	two64 := new(big.Int).Lsh(big.NewInt(1), 64)
	r := new(big.Int).Mod(x, two64) // from 0 on
	if r.Bit(63) == 1 {
		r.Sub(r, two64)
	}
	return int(r.Int64())
}

// do is ints.Do where there is a result.
func do(t *testing.T, op string, a, b int) int {
	t.Helper()
	n, e := ints.Do(op, a, b)
	if e != api.OK {
		t.Errorf("%d %s %d: error %d", a, op, b, e)
	}
	return n
}

// P2.1

func TestDo(t *testing.T) {
	for _, x := range []struct {
		op         string
		a, b, want int
	}{
		{"+", 1, 2, 3}, {"-", 1, 2, -1}, {"*", -3, 4, -12}, {"/", 12, 4, 3}, {"%", 14, 4, 2},
		{"+", 0, 0, 0}, {"-", 0, 0, 0}, {"*", 0, -5, 0}, {"/", 0, -5, 0}, {"%", 0, -5, 0},
		{"+", most, 1, least}, {"+", least, -1, most}, {"+", most, most, -2}, {"+", least, least, 0}, {"+", least, most, -1},
		{"-", least, 1, most}, {"-", most, -1, least}, {"-", 0, least, least}, {"-", least, least, 0}, {"-", -1, least, most},
		{"*", 1 << 62, 4, 0}, {"*", 1 << 62, 2, least}, {"*", 1 << 62, -2, least}, {"*", most, 2, -2}, {"*", most, most, 1},
		{"*", least, -1, least}, {"*", least, least, 0}, {"*", least, 3, least}, {"*", 3037000500, 3037000500, -9223372036709301616},
		{"/", 7, 2, 3}, {"/", -7, 2, -3}, {"/", 7, -2, -3}, {"/", -7, -2, 3},
		{"%", 7, 2, 1}, {"%", -7, 2, -1}, {"%", 7, -2, 1}, {"%", -7, -2, -1},
		{"/", 1, 2, 0}, {"/", -1, 2, 0}, {"%", 1, 2, 1}, {"%", -1, 2, -1}, {"/", 6, -3, -2}, {"%", 6, -3, 0}, {"%", -6, 3, 0},
		{"/", least, -1, least}, {"%", least, -1, 0}, {"/", least, 1, least}, {"%", least, 1, 0}, {"/", most, -1, -most},
		{"/", least, 2, -1 << 62}, {"/", least, most, -1}, {"%", least, most, -1}, {"/", most, least, 0}, {"%", most, least, most},
		{"/", least, least, 1}, {"%", least, least, 0}, {"/", least, 10, -922337203685477580}, {"%", least, 10, -8},
	} {
		if n := do(t, x.op, x.a, x.b); n != x.want {
			t.Errorf("%d %s %d is %d, not %d", x.a, x.op, x.b, n, x.want)
		}
	}
}

// TestDoExact holds each result against the exact one, wrapped around by package big.
func TestDoExact(t *testing.T) {
	l := samples()
	for _, a := range l {
		for _, b := range l {
			x, y := big.NewInt(int64(a)), big.NewInt(int64(b))
			holdExact(t, "+", a, b, new(big.Int).Add(x, y))
			holdExact(t, "-", a, b, new(big.Int).Sub(x, y))
			holdExact(t, "*", a, b, new(big.Int).Mul(x, y))
			if b != 0 {
				holdExact(t, "/", a, b, new(big.Int).Quo(x, y))
				holdExact(t, "%", a, b, new(big.Int).Rem(x, y))
			}
		}
	}
}

func holdExact(t *testing.T, op string, a, b int, exact *big.Int) {
	t.Helper()
	if n := do(t, op, a, b); n != wrap(exact) {
		t.Errorf("%d %s %d is %d, not %d", a, op, b, n, wrap(exact))
	}
}

func TestDoByZero(t *testing.T) {
	for _, a := range samples() {
		for _, op := range []string{"/", "%"} {
			if n, e := ints.Do(op, a, 0); n != 0 || e != api.ErrRange {
				t.Errorf("%d %s 0: %d, error %d", a, op, n, e)
			}
		}
		for _, x := range []struct {
			op   string
			want int
		}{{"+", a}, {"-", a}, {"*", 0}} {
			if n := do(t, x.op, a, 0); n != x.want {
				t.Errorf("%d %s 0: %d", a, x.op, n)
			}
		}
	}
}

// TestDoWrong also divides by 0: that the operation is none is found first.
func TestDoWrong(t *testing.T) {
	for _, op := range []string{"", "^", "++", "//", "%%", "+ ", " +", "/\x00", "−", "×", "÷", "&", "|", "<<", "x", "<", "==", "add", "div", "mod"} {
		for _, a := range []int{0, 1, -1, least, most} {
			for _, b := range []int{0, 1, -1, least, most} {
				if n, e := ints.Do(op, a, b); n != 0 || e != api.ErrArg {
					t.Errorf("%d %q %d: %d, error %d", a, op, b, n, e)
				}
			}
		}
	}
	for c := range 256 {
		op := string([]byte{byte(c)})
		if _, e := ints.Do(op, 6, 3); (e == api.OK) != strings.Contains("+-*/%", op) {
			t.Errorf("%q: error %d", op, e)
		}
	}
}

func TestNeg(t *testing.T) {
	for _, x := range [][2]int{{0, 0}, {1, -1}, {-1, 1}, {12, -12}, {most, least + 1}, {least + 1, most}, {least, least}} {
		if n := ints.Neg(x[0]); n != x[1] {
			t.Errorf("%d: %d", x[0], n)
		}
	}
	for _, a := range samples() {
		if n := ints.Neg(a); n != do(t, "-", 0, a) {
			t.Errorf("%d: %d", a, n)
		}
	}
}

// P2.2

// texts returns ints with their texts.
func texts() map[string]int {
	return map[string]int{
		"0": 0, "1": 1, "-1": -1, "9": 9, "-9": -9, "10": 10, "-10": -10, "-12": -12, "100": 100, "-1000": -1000, "1234567890": 1234567890,
		"9007199254740993": 1<<53 + 1, "999999999999999999": 1e18 - 1, "1000000000000000000": 1e18,
		"9223372036854775799": most - 8, "9223372036854775806": most - 1, "9223372036854775807": most,
		"-9223372036854775799": least + 9, "-9223372036854775807": least + 1, "-9223372036854775808": least,
	}
}

func TestText(t *testing.T) {
	for s, n := range texts() {
		if got := ints.Text(n); got != s {
			t.Errorf("%s: %s", s, got)
		}
	}
	for _, n := range samples() {
		if s := ints.Text(n); s != big.NewInt(int64(n)).String() {
			t.Errorf("%d: %s", n, s)
		}
	}
}

func TestRead(t *testing.T) {
	for s, want := range texts() {
		if n, e := ints.Read(s); n != want || e != api.OK {
			t.Errorf("%s: %d, error %d", s, n, e)
		}
	}
}

func TestReadWrongForm(t *testing.T) {
	for _, s := range []string{
		"", "-", "--", "--1", "+", "+1", "+0", "-+1", "1-", "1-1", "- 1", " 1", "1 ", "\t1", "1\n", "\x001", "1\x00",
		"00", "01", "012", "007", "000", "-0", "-00", "-01", "-012", "09223372036854775807", "-09223372036854775808",
		"1x", "x", "x1", "1x1", "0x1", "0b1", "0o7", "1_000", "1,000", "1.0", "1.", ".1", "1e3", "1/", "1:", "/", ":", "a", "A", "f",
		"\xff", "1\xff", "１", "1１", "٣", "−1", "é", "NaN", "Inf", "null",
		strings.Repeat("0", 30), "-" + strings.Repeat("0", 30), "0" + strings.Repeat("9", 30),
	} {
		holdRead(t, s, api.ErrForm)
	}
	// Of a text that is both too large and no digits throughout, the form is told.
	for _, s := range []string{"9223372036854775808x", "99999999999999999999 ", "-99999999999999999999-", "99999x999999999999999999"} {
		holdRead(t, s, api.ErrForm)
	}
	for c := range 256 {
		if c >= '0' && c <= '9' {
			continue
		}
		b := string([]byte{byte(c)})
		for _, s := range []string{b, "1" + b, "1" + b + "1", "-1" + b} {
			holdRead(t, s, api.ErrForm)
		}
		if c != '-' {
			holdRead(t, b+"1", api.ErrForm)
		}
	}
}

func holdRead(t *testing.T, s string, want api.Errno) {
	t.Helper()
	if n, e := ints.Read(s); n != 0 || e != want {
		t.Errorf("%q: %d, error %d, not %d", s, n, e, want)
	}
}

func TestReadOutside(t *testing.T) {
	for _, s := range []string{
		"9223372036854775808", "9223372036854775809", "9223372036854775810", "9223372036854775817", "9999999999999999999", "10000000000000000000",
		"-9223372036854775809", "-9223372036854775810", "-9223372036854775818", "-9999999999999999999", "-10000000000000000000",
		strings.Repeat("9", 20), strings.Repeat("9", 1000), "-" + strings.Repeat("9", 1000), "1" + strings.Repeat("0", 64), "-1" + strings.Repeat("0", 64),
	} {
		holdRead(t, s, api.ErrRange)
	}
	// What wraps around to an int is no text of it.
	for _, n := range samples() {
		for k := -3; k <= 3; k++ {
			if k == 0 {
				continue
			}
			x := new(big.Int).Lsh(big.NewInt(int64(k)), 64)
			holdRead(t, x.Add(x, big.NewInt(int64(n))).String(), api.ErrRange)
		}
	}
}
