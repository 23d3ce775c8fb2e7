package opers_test

import (
	"fmt"
	"math"
	"math/rand"
	"strconv"
	"strings"
	"testing"

	"chaperon/api"
	"chaperon/ints"
	"chaperon/reals"
	"chaperon/words"
)

// chapter is what operations take, as the chapter has it: how many operands there are, or that it is a name; a sign or a name; what it takes, with a ? behind it if both ? go to it; its result, own if that is what is taken.
const chapter = `
	two || bool? bool
	two && bool? bool
	two == any bool
	two != any bool
	two < int,real bool
	two <= int,real bool
	two + int,real,str own
	two - int,real own
	two * int,real own
	two / int,real own
	two % int own
	one - int,real own
	one ! bool own
	name real int real
	name int real int
	name len str int
`

// row is a line of the chapter.
type row struct {
	takes        []string
	result       string
	any, onlyOne bool
}

// rowOf returns the line of an operation of a sort, if there is one.
func rowOf(sort, op string) (row, bool) {
	for line := range strings.Lines(strings.TrimSpace(chapter)) {
		l := strings.Fields(line)
		if l[0] != sort || l[1] != op {
			continue
		}
		takes, onlyOne := strings.CutSuffix(l[2], "?")
		return row{strings.Split(takes, ","), l[3], takes == "any", onlyOne}, true
	}
	return row{}, false
}

// of returns what the operation is on operands of a type.
func (r row) of(arg string) api.Oper {
	if r.result == "own" {
		return to(arg, arg)
	}
	return to(arg, r.result)
}

// takesType reports whether a type is among those that are taken.
func (r row) takesType(s string) bool {
	return isOneOf(s, strings.Join(r.takes, " "))
}

// isType is a second reading of what a type is.
func isType(s string) bool {
	if isOneOf(s, "int real bool str unit ?") {
		return true
	}
	if s == "" || len(s) > 20 || s[0] < 'A' || s[0] > 'Z' {
		return false
	}
	return strings.Trim(s, "abcdefghijklmnopqrstuvwxyzABCDEFGHIJKLMNOPQRSTUVWXYZ0123456789") == ""
}

// plainBin is a second reading of Bin, case by case as the chapter has it.
func plainBin(op, left, right string) (api.Oper, api.Errno) {
	r, is := rowOf("two", op)
	switch {
	case !is:
		return refused(), api.ErrArg
	case !isType(left) || !isType(right):
		return refused(), api.ErrType
	case r.any:
		return anyTo("bool"), api.OK
	case r.onlyOne:
		if !isOneOf(left, "bool ?") || !isOneOf(right, "bool ?") {
			return refused(), api.ErrType
		}
		return of("bool"), api.OK
	case r.takesType(left):
		if right != left && right != "?" {
			return refused(), api.ErrType
		}
		return r.of(left), api.OK
	case left == "?" && r.takesType(right):
		return r.of(right), api.OK
	case left == "?" && right == "?":
		o := r.of("?")
		o.Dyn = true
		return o, api.OK
	}
	return refused(), api.ErrType
}

// plainOne is a second reading of Un and Conv.
func plainOne(sort, op, s string) (api.Oper, api.Errno) {
	r, is := rowOf(sort, op)
	switch {
	case !is:
		return refused(), api.ErrArg
	case s == "?":
		return r.of(r.takes[0]), api.OK
	case r.takesType(s):
		return r.of(s), api.OK
	}
	return refused(), api.ErrType
}

// allSigns returns all signs and names, and what is none.
func allSigns() []string {
	return append(append(append(noSigns(), binaries()...), conversionNames()...), "!")
}

// allTypes returns all types but most classes, and what is none.
func allTypes() []string {
	return append(append(noTypes(), baseTypes()...), "?", "A", "B", "Int", "Cat2", "A"+strings.Repeat("z", 19))
}

func TestTypesPlain(t *testing.T) {
	for _, op := range allSigns() {
		for _, left := range allTypes() {
			if words.Type(left) != isType(left) {
				t.Errorf("%q: a type %t", left, isType(left))
			}
			for _, right := range allTypes() {
				o, e := plainBin(op, left, right)
				holdBin(t, op, left, right, o, e)
			}
			o, e := plainOne("one", op, left)
			holdUn(t, op, left, o, e)
			o, e = plainOne("name", op, left)
			holdConv(t, op, left, o, e)
		}
	}
}

// plainSame is a second reading of when two values are the same.
func plainSame(a, b api.Value) bool {
	if a.Tag != b.Tag {
		return false
	}
	switch a.Tag {
	case 1, 3, 7:
		return a.N == b.N
	case 2:
		return reals.Equal(a.Bits, b.Bits)
	case 4:
		return a.S == b.S
	case 5, 6:
		return true
	}
	return false
}

// plainDo is a second reading of Do.
func plainDo(op string, a, b api.Value) (api.Value, int, api.Errno) {
	r, is := rowOf("two", op)
	switch {
	case !is || r.onlyOne:
		return nothing(), 0, api.ErrArg
	case op == "==":
		return truthOf(plainSame(a, b)), 0, api.OK
	case op == "!=":
		return truthOf(!plainSame(a, b)), 0, api.OK
	}
	s, _ := words.OfTag(a.Tag)
	if a.Tag != b.Tag || !r.takesType(s) {
		return nothing(), 0, api.ErrType
	}
	switch s {
	case "int":
		return plainInts(op, a.N, b.N)
	case "real":
		return plainReals(op, a.Bits, b.Bits), 0, api.OK
	}
	if len(a.S)+len(b.S) > 1000 {
		return nothing(), 6, api.OK
	}
	return text(a.S + b.S), 0, api.OK
}

func plainInts(op string, a, b int) (api.Value, int, api.Errno) {
	switch op {
	case "<":
		return truthOf(a < b), 0, api.OK
	case "<=":
		return truthOf(a <= b), 0, api.OK
	}
	n, e := ints.Do(op, a, b)
	if e == api.ErrRange {
		return nothing(), 2, api.OK
	}
	return whole(n), 0, e
}

func plainReals(op string, a, b uint64) api.Value {
	x, y := math.Float64frombits(a), math.Float64frombits(b)
	r := map[string]float64{"+": x + y, "-": x - y, "*": x * y, "/": x / y}[op]
	switch {
	case op == "<":
		return truthOf(reals.Less(a, b))
	case op == "<=":
		return truthOf(reals.Less(a, b) || reals.Equal(a, b))
	case r != r:
		return point(nan)
	}
	return point(math.Float64bits(r))
}

// plainTurn is a second reading of Turn.
func plainTurn(op string, a api.Value) (api.Value, api.Errno) {
	switch {
	case op != "-" && op != "!":
		return nothing(), api.ErrArg
	case op == "-" && a.Tag == 1:
		return whole(0 - a.N), api.OK
	case op == "-" && a.Tag == 2 && math.IsNaN(math.Float64frombits(a.Bits)):
		return point(nan), api.OK
	case op == "-" && a.Tag == 2:
		return point(a.Bits ^ minus), api.OK
	case op == "!" && a.Tag == 3:
		return truthOf(a.N == 0), api.OK
	}
	return nothing(), api.ErrType
}

// plainChange is a second reading of Change.
func plainChange(name string, a api.Value) (api.Value, int, api.Errno) {
	r, is := rowOf("name", name)
	if !is {
		return nothing(), 0, api.ErrArg
	}
	if s, _ := words.OfTag(a.Tag); s != r.takes[0] {
		return nothing(), 0, api.ErrType
	}
	switch name {
	case "real":
		return point(math.Float64bits(float64(a.N))), 0, api.OK
	case "len":
		return whole(len(a.S)), 0, api.OK
	}
	n, e := reals.ToInt(a.Bits)
	if e != api.OK {
		return nothing(), 5, api.OK
	}
	return whole(n), 0, api.OK
}

// plainShow is a second reading of Show.
func plainShow(a api.Value) string {
	switch a.Tag {
	case 1:
		return strconv.Itoa(a.N)
	case 2:
		return fmt.Sprintf("%016x", reals.Canon(a.Bits))
	case 3:
		return strconv.FormatBool(a.N == 1)
	case 4, 7:
		return a.S
	case 5:
		return "()"
	case 6:
		return "null"
	}
	return ""
}

// samples returns values of all tags, each with edges of its own, and tags that there are not.
func samples() []api.Value {
	l := append(several(), strange()...)
	for _, n := range []int{2, 7, -2, -7, 10, 1 << 31, -1 << 32, 1<<53 + 1, 1 << 62, -1 << 62, most - 1, most, least + 1, least} {
		l = append(l, whole(n), truth(n), object(n, "A"), object(n, ""))
	}
	for _, a := range []uint64{half, two, three, two53, two63, two63 - 1, two63 + 1, inf - 1, inf, nan, inf + 1, 0x7fffffffffffffff, 0x4024000000000000, 0x3ff8000000000000, 0x10000000000000} {
		l = append(l, point(a), point(a|minus))
	}
	for _, n := range []int{2, 499, 500, 501, 999, 1000, 1001, 3000} {
		l = append(l, letters(n), text(strings.Repeat("é", n/2)))
	}
	return append(l, text("b"), text("ab"), text("\xff"), text("\x00"), object(3, "A", api.Layer{Class: "B", Label: 2}))
}

// chance returns a value made by chance, mostly of a tag that there is.
func chance(r *rand.Rand) api.Value {
	v := api.Value{Tag: r.Intn(9), N: r.Intn(7) - 3, Bits: r.Uint64(), S: strings.Repeat("ab", r.Intn(3))}
	switch r.Intn(4) {
	case 0:
		v.N = int(r.Uint64())
		v.Bits = math.Float64bits(float64(r.Intn(9) - 4))
	case 1:
		v.Bits = math.Float64bits(math.Ldexp(r.Float64()*2-1, r.Intn(140)-70))
		v.S = strings.Repeat("c", 490+r.Intn(20))
	case 2:
		v.Bits = []uint64{0, minus, inf, inf | minus, nan, inf | 1, two63, one}[r.Intn(8)]
		v.Chain = []api.Layer{{Class: "A", Label: r.Intn(5)}}
	}
	return v
}

func holdTwoPlain(t *testing.T, a, b api.Value) {
	t.Helper()
	for _, op := range binaries() {
		v, trap, e := plainDo(op, a, b)
		holdDo(t, op, a, b, v, trap, e)
	}
	holdSame(t, a, b, plainSame(a, b))
}

func holdOnePlain(t *testing.T, a api.Value) {
	t.Helper()
	for _, op := range allSigns() {
		v, e := plainTurn(op, a)
		holdTurn(t, op, a, v, e)
		v, trap, e := plainChange(op, a)
		holdChange(t, op, a, v, trap, e)
	}
	holdShow(t, a, plainShow(a))
}

func TestValuesPlain(t *testing.T) {
	l := samples()
	for _, a := range l {
		holdOnePlain(t, a)
		for _, b := range l {
			holdTwoPlain(t, a, b)
		}
	}
}

func TestChancePlain(t *testing.T) {
	r := rand.New(rand.NewSource(15))
	for range 3000 {
		a, b := chance(r), chance(r)
		holdOnePlain(t, a)
		holdTwoPlain(t, a, b)
		b.Tag = a.Tag
		holdTwoPlain(t, a, b)
	}
}
