// Package reals is layer 1: floating-point numbers, by their bits: see shared/doc/01-reals.md.
package reals

import (
	"math"
	"strconv"
	"strings"

	"chaperon/api"
)

const (
	sign     = 0x8000000000000000
	infinity = 0x7ff0000000000000
	theNaN   = 0x7ff8000000000000
	digits   = 16
)

// Canon returns the NaN for any NaN, and everything else as it is.
func Canon(a uint64) uint64 {
	if isNaN(a) {
		return theNaN
	}
	return a
}

// Do returns a op b, rounded once.
func Do(op string, a, b uint64) (uint64, api.Errno) {
	f := operation(op)
	if f == nil {
		return 0, api.ErrArg
	}
	// Which of its NaNs a processor makes is its own affair.
	return Canon(math.Float64bits(f(math.Float64frombits(a), math.Float64frombits(b)))), api.OK
}

// Neg returns a with the opposite sign.
func Neg(a uint64) uint64 {
	if isNaN(a) {
		return theNaN
	}
	return a ^ sign
}

// Less reports whether a is less than b: never if one of them is a NaN.
func Less(a, b uint64) bool {
	return math.Float64frombits(a) < math.Float64frombits(b)
}

// Equal reports whether a and b are equal: both zeros are, a NaN is equal to nothing.
func Equal(a, b uint64) bool {
	return math.Float64frombits(a) == math.Float64frombits(b)
}

// Order returns -1, 0 or 1: a is before b, the same, or after it, in a total order.
func Order(a, b uint64) int {
	return first(Canon(a), Canon(b), ahead(numberFirst), ahead(Less), ahead(minusFirst))
}

// OfInt returns the real nearest to n.
func OfInt(n int) uint64 {
	return math.Float64bits(float64(n))
}

// ToInt returns a, rounded towards 0, as an int.
func ToInt(a uint64) (int, api.Errno) {
	f := math.Float64frombits(a)
	// The greatest int is no real: what is less than 2^63 is at most 2^63 - 1024. A NaN is in no range.
	if f >= -1<<63 && f < 1<<63 {
		return int(f), api.OK
	}
	return 0, api.ErrRange
}

// Text returns the 16 digits of Canon(a).
func Text(a uint64) string {
	s := strconv.FormatUint(Canon(a), 16)
	return strings.Repeat("0", digits-len(s)) + s
}

// Read returns Canon of the real that 16 digits stand for.
func Read(s string) (uint64, api.Errno) {
	if len(s) != digits {
		return 0, api.ErrForm
	}
	var a uint64
	for i := range len(s) {
		d, ok := digit(s[i])
		if !ok {
			return 0, api.ErrForm
		}
		a = a<<4 | d
	}
	return Canon(a), api.OK
}

func isNaN(a uint64) bool {
	return a&^sign > infinity
}

// operation returns the arithmetic of a sign, or nil.
func operation(op string) func(x, y float64) float64 {
	switch op {
	case "+":
		return func(x, y float64) float64 { return x + y }
	case "-":
		return func(x, y float64) float64 { return x - y }
	case "*":
		return func(x, y float64) float64 { return x * y }
	case "/":
		return func(x, y float64) float64 { return x / y }
	}
	return nil
}

// first returns what the first comparison that decides says of a and b; 0 if none decides.
func first[T any](a, b T, comparisons ...func(a, b T) int) int {
	for _, compare := range comparisons {
		if n := compare(a, b); n != 0 {
			return n
		}
	}
	return 0
}

// ahead makes a comparison of a rule that reports whether its first operand comes before its second one.
func ahead[T any](before func(a, b T) bool) func(a, b T) int {
	return func(a, b T) int {
		if before(a, b) {
			return -1
		}
		if before(b, a) {
			return 1
		}
		return 0
	}
}

func numberFirst(a, b uint64) bool {
	return !isNaN(a) && isNaN(b)
}

func minusFirst(a, b uint64) bool {
	return a&sign > b&sign
}

// digit returns what a hexadecimal digit stands for: capitals are none, so that a real has one text only.
func digit(c byte) (uint64, bool) {
	switch {
	case '0' <= c && c <= '9':
		return uint64(c - '0'), true
	case 'a' <= c && c <= 'f':
		return uint64(c-'a') + 10, true
	}
	return 0, false
}
