package opers_test

import (
	"math"
	"slices"
	"strings"
	"testing"

	"chaperon/api"
	"chaperon/opers"
)

// Some reals by their digits.
const (
	minus = 0x8000000000000000 // the sign; the negative zero
	one   = 0x3ff0000000000000
	two   = 0x4000000000000000
	three = 0x4008000000000000
	half  = 0x3fe0000000000000
	inf   = 0x7ff0000000000000
	nan   = 0x7ff8000000000000
	two53 = 0x4340000000000000
	two63 = 0x43e0000000000000
)

const (
	most  = math.MaxInt
	least = math.MinInt
)

func whole(n int) api.Value      { return api.Value{Tag: 1, N: n} }
func point(a uint64) api.Value   { return api.Value{Tag: 2, Bits: a} }
func truth(n int) api.Value      { return api.Value{Tag: 3, N: n} }
func text(s string) api.Value    { return api.Value{Tag: 4, S: s} }
func unit() api.Value            { return api.Value{Tag: 5} }
func null() api.Value            { return api.Value{Tag: 6} }
func tagged(tag int) api.Value   { return api.Value{Tag: tag} }
func letters(n int) api.Value    { return text(strings.Repeat("a", n)) }
func of(s string) api.Oper       { return api.Oper{Arg: s, Result: s} }
func to(s, r string) api.Oper    { return api.Oper{Arg: s, Result: r} }
func anyTo(r string) api.Oper    { return api.Oper{Result: r} }
func dynamic(r string) api.Oper  { return api.Oper{Arg: "?", Result: r, Dyn: true} }
func refused() (none api.Oper)   { return }
func nothing() (none api.Value)  { return }
func binaries() []string         { return strings.Fields("|| && == != < <= + - * / %") }
func calculations() []string     { return strings.Fields("+ - * / %") }
func conversionNames() []string  { return strings.Fields("real int len") }
func baseTypes() []string        { return strings.Fields("int real bool str unit") }
func isOneOf(s, all string) bool { return slices.Contains(strings.Fields(all), s) }

// object is an object that lies at a place, with a chain.
func object(n int, class string, chain ...api.Layer) api.Value {
	return api.Value{Tag: 7, N: n, S: class, Chain: chain}
}

// full is a value all of whose fields are set, that of a tag to what is asked for.
func full(v api.Value) api.Value {
	all := api.Value{Tag: v.Tag, N: 4711, Bits: 0x4012345678abcdef, S: "noise", Chain: []api.Layer{{Out: true, Class: "Noise", Label: 9}}}
	switch v.Tag {
	case 1, 3:
		all.N = v.N
	case 2:
		all.Bits = v.Bits
	case 4:
		all.S = v.S
	case 7:
		all.N, all.S, all.Chain = v.N, v.S, v.Chain
	}
	return all
}

// equal reports whether two values are the same in each field.
func equal(a, b api.Value) bool {
	return a.Tag == b.Tag && a.N == b.N && a.Bits == b.Bits && a.S == b.S && slices.Equal(a.Chain, b.Chain)
}

func holdBin(t *testing.T, op, left, right string, want api.Oper, wrong api.Errno) {
	t.Helper()
	if o, e := opers.Bin(op, left, right); o != want || e != wrong {
		t.Errorf("%q %q %q: %+v, error %d, not %+v, error %d", left, op, right, o, e, want, wrong)
	}
}

func holdUn(t *testing.T, op, s string, want api.Oper, wrong api.Errno) {
	t.Helper()
	if o, e := opers.Un(op, s); o != want || e != wrong {
		t.Errorf("%q %q: %+v, error %d, not %+v, error %d", op, s, o, e, want, wrong)
	}
}

func holdConv(t *testing.T, name, s string, want api.Oper, wrong api.Errno) {
	t.Helper()
	if o, e := opers.Conv(name, s); o != want || e != wrong {
		t.Errorf("%q of %q: %+v, error %d, not %+v, error %d", name, s, o, e, want, wrong)
	}
}

// holdDo holds a op b, also with all fields of both set.
func holdDo(t *testing.T, op string, a, b, want api.Value, trap int, wrong api.Errno) {
	t.Helper()
	for _, x := range [][2]api.Value{{a, b}, {full(a), full(b)}, {full(a), b}, {a, full(b)}} {
		v, n, e := opers.Do(op, x[0], x[1])
		if !equal(v, want) || n != trap || e != wrong {
			t.Errorf("%+v %q %+v: %+v, trap %d, error %d, not %+v, trap %d, error %d", x[0], op, x[1], v, n, e, want, trap, wrong)
		}
	}
}

func holdTurn(t *testing.T, op string, a, want api.Value, wrong api.Errno) {
	t.Helper()
	for _, x := range []api.Value{a, full(a)} {
		if v, e := opers.Turn(op, x); !equal(v, want) || e != wrong {
			t.Errorf("%q %+v: %+v, error %d, not %+v, error %d", op, x, v, e, want, wrong)
		}
	}
}

func holdChange(t *testing.T, name string, a, want api.Value, trap int, wrong api.Errno) {
	t.Helper()
	for _, x := range []api.Value{a, full(a)} {
		if v, n, e := opers.Change(name, x); !equal(v, want) || n != trap || e != wrong {
			t.Errorf("%q of %+v: %+v, trap %d, error %d, not %+v, trap %d, error %d", name, x, v, n, e, want, trap, wrong)
		}
	}
}

// holdSame holds whether values are the same, in both orders, also with all their fields set.
func holdSame(t *testing.T, a, b api.Value, want bool) {
	t.Helper()
	for _, x := range [][2]api.Value{{a, b}, {b, a}, {full(a), full(b)}, {full(a), b}, {full(b), a}} {
		if opers.Same(x[0], x[1]) != want {
			t.Errorf("%+v and %+v: %t", x[0], x[1], !want)
		}
	}
}

func holdShow(t *testing.T, a api.Value, want string) {
	t.Helper()
	for _, x := range []api.Value{a, full(a)} {
		if s := opers.Show(x); s != want {
			t.Errorf("%+v: %q, not %q", x, s, want)
		}
	}
}

// noTypes returns texts that are no types.
func noTypes() []string {
	return []string{
		"", " ", "a", "x", "cat", "len", "none", "null", "this", "true", "nan", "Int ", " int", "int ", "int?", "?int", "??", "? ", "2C", "A_b", "A b", "A\x00", "*", "any", "float",
		"INT!", "strs", "boolean", "é", "É", "\xff", "A" + strings.Repeat("a", 20), "int\n", "object", "-", "==", "int real", "void",
	}
}

// noSigns returns texts that are neither a sign nor a name of any operation.
func noSigns() []string {
	return []string{
		"", " ", "^", "&", "|", "=", "===", "!==", ">", ">=", "=>", "=<", "<<", ">>", "<>", "++", "--", "**", "//", "%%", "!!", "&&&", "|||", "~", "+ ", " +", "+\x00", "+-",
		"== ", "\t==", "plus", "and", "or", "not", "mod", "add", "str", "bool", "unit", "?", "A", "Int", "Real", "LEN", "length", "len ", " len", "ints", "rea", "le", "×", "÷", "−", "＋", "\xff", "\x00",
	}
}

// TestExamples holds the examples of the chapter.
func TestExamples(t *testing.T) {
	holdBin(t, "+", "int", "?", of("int"), api.OK)
	holdBin(t, "+", "?", "str", of("str"), api.OK)
	holdBin(t, "<", "?", "?", dynamic("bool"), api.OK)
	holdBin(t, "-", "str", "str", refused(), api.ErrType)
	holdBin(t, "==", "A", "int", anyTo("bool"), api.OK)
	holdBin(t, "&&", "?", "bool", of("bool"), api.OK)
	holdBin(t, "^", "int", "int", refused(), api.ErrArg)
	holdDo(t, "+", whole(2), whole(3), whole(5), 0, api.OK)
	holdDo(t, "/", whole(1), whole(0), nothing(), api.TrapZero, api.OK)
	holdDo(t, "<", point(0), point(minus), truth(0), 0, api.OK)
	holdDo(t, "==", point(nan), point(nan), truth(0), 0, api.OK)
	holdDo(t, "+", text("ab"), text("c"), text("abc"), 0, api.OK)
	holdDo(t, "+", whole(1), text("a"), nothing(), 0, api.ErrType)
	holdTurn(t, "-", whole(least), whole(least), api.OK)
	holdTurn(t, "!", truth(1), truth(0), api.OK)
	holdChange(t, "int", point(nan), nothing(), api.TrapRange, api.OK)
	holdChange(t, "real", whole(1), point(one), 0, api.OK)
	holdChange(t, "len", text("ab"), whole(2), 0, api.OK)
	holdShow(t, point(one), "3ff0000000000000")
	if v, e := opers.Zero("A"); !equal(v, null()) || e != api.OK {
		t.Errorf("A: %+v, error %d", v, e)
	}
}

// P15.1

func TestBinOfAny(t *testing.T) {
	l := []string{"int", "real", "bool", "str", "unit", "?", "A", "B", "Cat2", "A" + strings.Repeat("z", 19)}
	for _, op := range []string{"==", "!="} {
		for _, left := range l {
			for _, right := range l {
				holdBin(t, op, left, right, anyTo("bool"), api.OK)
			}
		}
	}
}

func TestBinOfTruths(t *testing.T) {
	for _, op := range []string{"||", "&&"} {
		for _, left := range []string{"bool", "?"} {
			for _, right := range []string{"bool", "?"} {
				holdBin(t, op, left, right, of("bool"), api.OK)
			}
			for _, s := range []string{"int", "real", "str", "unit", "A", "Bool"} {
				holdBin(t, op, left, s, refused(), api.ErrType)
				holdBin(t, op, s, left, refused(), api.ErrType)
				holdBin(t, op, s, s, refused(), api.ErrType)
			}
		}
	}
}

func TestBinTaken(t *testing.T) {
	for _, x := range []struct {
		ops, takes, refuses string
		truth               bool
	}{
		{"+", "int real str", "bool unit A Str", false},
		{"- * /", "int real", "bool str unit A Int", false},
		{"%", "int", "real bool str unit A Real", false},
		{"< <=", "int real", "bool str unit A B", true},
	} {
		for _, op := range strings.Fields(x.ops) {
			for _, s := range strings.Fields(x.takes) {
				want := of(s)
				if x.truth {
					want.Result = "bool"
				}
				holdBin(t, op, s, s, want, api.OK)
				holdBin(t, op, s, "?", want, api.OK)
				holdBin(t, op, "?", s, want, api.OK)
				for _, other := range strings.Fields(x.takes + " " + x.refuses) {
					if other != s {
						holdBin(t, op, s, other, refused(), api.ErrType)
						holdBin(t, op, other, s, refused(), api.ErrType)
					}
				}
			}
			for _, s := range strings.Fields(x.refuses) {
				holdBin(t, op, s, s, refused(), api.ErrType)
				holdBin(t, op, s, "?", refused(), api.ErrType)
				holdBin(t, op, "?", s, refused(), api.ErrType)
			}
		}
	}
}

func TestBinDynamic(t *testing.T) {
	for _, op := range calculations() {
		holdBin(t, op, "?", "?", dynamic("?"), api.OK)
	}
	holdBin(t, "<", "?", "?", dynamic("bool"), api.OK)
	holdBin(t, "<=", "?", "?", dynamic("bool"), api.OK)
	holdBin(t, "&&", "?", "?", of("bool"), api.OK)
	holdBin(t, "||", "?", "?", of("bool"), api.OK)
	holdBin(t, "==", "?", "?", anyTo("bool"), api.OK)
	holdBin(t, "!=", "?", "?", anyTo("bool"), api.OK)
}

// TestBinNoOperation also gives what is no type: that there is no such operation is found first.
func TestBinNoOperation(t *testing.T) {
	for _, op := range append(noSigns(), "!", "real", "int", "len") {
		for _, s := range []string{"int", "real", "bool", "str", "?", "A", "", "x"} {
			holdBin(t, op, s, s, refused(), api.ErrArg)
			holdBin(t, op, "int", s, refused(), api.ErrArg)
			holdBin(t, op, s, "int", refused(), api.ErrArg)
		}
	}
}

func TestBinNoType(t *testing.T) {
	for _, op := range binaries() {
		for _, s := range noTypes() {
			holdBin(t, op, s, s, refused(), api.ErrType)
			for _, other := range append(baseTypes(), "?", "A") {
				holdBin(t, op, s, other, refused(), api.ErrType)
				holdBin(t, op, other, s, refused(), api.ErrType)
			}
		}
	}
}

func TestUn(t *testing.T) {
	for _, x := range []struct {
		op, s string
		want  api.Oper
	}{{"-", "int", of("int")}, {"-", "real", of("real")}, {"-", "?", of("int")}, {"!", "bool", of("bool")}, {"!", "?", of("bool")}} {
		holdUn(t, x.op, x.s, x.want, api.OK)
	}
	for _, s := range append(noTypes(), "bool", "str", "unit", "A", "Int", "Real") {
		holdUn(t, "-", s, refused(), api.ErrType)
	}
	for _, s := range append(noTypes(), "int", "real", "str", "unit", "A", "Bool") {
		holdUn(t, "!", s, refused(), api.ErrType)
	}
	for _, op := range append(noSigns(), "+", "*", "/", "%", "<", "<=", "==", "!=", "&&", "||", "real", "int", "len") {
		for _, s := range []string{"int", "real", "bool", "str", "?", "A", "", "x"} {
			holdUn(t, op, s, refused(), api.ErrArg)
		}
	}
}

func TestConv(t *testing.T) {
	for _, x := range []struct {
		name, s string
		want    api.Oper
	}{
		{"real", "int", to("int", "real")}, {"real", "?", to("int", "real")}, {"int", "real", to("real", "int")}, {"int", "?", to("real", "int")},
		{"len", "str", to("str", "int")}, {"len", "?", to("str", "int")},
	} {
		holdConv(t, x.name, x.s, x.want, api.OK)
	}
	for _, s := range append(noTypes(), "real", "bool", "str", "unit", "A", "Int") {
		holdConv(t, "real", s, refused(), api.ErrType)
	}
	for _, s := range append(noTypes(), "int", "bool", "str", "unit", "A", "Real") {
		holdConv(t, "int", s, refused(), api.ErrType)
	}
	for _, s := range append(noTypes(), "int", "real", "bool", "unit", "A", "Str") {
		holdConv(t, "len", s, refused(), api.ErrType)
	}
	for _, name := range append(append(noSigns(), binaries()...), "!") {
		for _, s := range []string{"int", "real", "bool", "str", "?", "A", "", "x"} {
			holdConv(t, name, s, refused(), api.ErrArg)
		}
	}
}

// P15.2

func TestDoInts(t *testing.T) {
	for _, x := range []struct {
		op         string
		a, b, want int
	}{
		{"+", 2, 3, 5}, {"-", 2, 3, -1}, {"*", -2, 3, -6}, {"/", 7, 2, 3}, {"%", 7, 2, 1},
		{"+", most, 1, least}, {"-", least, 1, most}, {"*", 1 << 62, 4, 0}, {"-", 0, least, least}, {"*", most, most, 1},
		{"/", -7, 2, -3}, {"%", -7, 2, -1}, {"/", 7, -2, -3}, {"%", 7, -2, 1}, {"/", least, -1, least}, {"%", least, -1, 0}, {"/", 0, 5, 0}, {"%", 0, 5, 0},
		{"+", 1<<53 + 1, 0, 1<<53 + 1}, {"-", 1<<53 + 1, 1, 1 << 53},
	} {
		holdDo(t, x.op, whole(x.a), whole(x.b), whole(x.want), 0, api.OK)
	}
	for _, a := range []int{0, 1, -1, 7, most, least} {
		holdDo(t, "/", whole(a), whole(0), nothing(), api.TrapZero, api.OK)
		holdDo(t, "%", whole(a), whole(0), nothing(), api.TrapZero, api.OK)
		holdDo(t, "+", whole(a), whole(0), whole(a), 0, api.OK)
		holdDo(t, "*", whole(a), whole(0), whole(0), 0, api.OK)
	}
}

func TestDoReals(t *testing.T) {
	for _, x := range []struct {
		op         string
		a, b, want uint64
	}{
		{"+", one, one, two}, {"-", three, two, one}, {"*", two, half, one}, {"/", one, two, half}, {"/", one, 0, inf}, {"/", one, minus, inf | minus}, {"/", 0, 0, nan},
		{"-", one, one, 0}, {"*", minus, one, minus}, {"+", minus, minus, minus}, {"+", minus, 0, 0}, {"-", inf, inf, nan}, {"*", inf, 0, nan}, {"+", inf, one, inf},
		{"+", nan, one, nan}, {"*", one, nan, nan}, {"+", 0xfff8000000000123, one, nan}, {"-", one, 0x7ff0000000000001, nan}, {"/", nan, nan, nan}, {"+", two53, one, two53},
	} {
		holdDo(t, x.op, point(x.a), point(x.b), point(x.want), 0, api.OK)
	}
	holdDo(t, "%", point(three), point(two), nothing(), 0, api.ErrType)
	holdDo(t, "%", point(three), point(0), nothing(), 0, api.ErrType)
}

func TestDoTexts(t *testing.T) {
	for _, x := range [][3]string{{"", "", ""}, {"a", "", "a"}, {"", "b", "b"}, {"ab", "c", "abc"}, {"c", "ab", "cab"}, {"\x00", "\xff\n", "\x00\xff\n"}, {"é", "?", "é?"}, {"a", "a", "aa"}} {
		holdDo(t, "+", text(x[0]), text(x[1]), text(x[2]), 0, api.OK)
	}
	for _, op := range []string{"-", "*", "/", "%", "<", "<="} {
		holdDo(t, op, text("b"), text("a"), nothing(), 0, api.ErrType)
		holdDo(t, op, text(""), text(""), nothing(), 0, api.ErrType)
	}
}

// TestDoLongTexts joins texts of lengths around the limit.
func TestDoLongTexts(t *testing.T) {
	for _, a := range []int{0, 1, 2, 499, 500, 501, 998, 999, 1000, 1001, 1002, 5000} {
		for _, b := range []int{0, 1, 2, 499, 500, 501, 998, 999, 1000, 1001, 1002, 5000} {
			if a+b > 1000 {
				holdDo(t, "+", letters(a), letters(b), nothing(), api.TrapLong, api.OK)
			} else {
				holdDo(t, "+", letters(a), letters(b), letters(a+b), 0, api.OK)
			}
		}
	}
	// Bytes are counted, not letters: é has two.
	holdDo(t, "+", text(strings.Repeat("é", 250)), letters(500), text(strings.Repeat("é", 250)+strings.Repeat("a", 500)), 0, api.OK)
	holdDo(t, "+", text(strings.Repeat("é", 251)), letters(499), nothing(), api.TrapLong, api.OK)
	holdDo(t, "==", letters(5000), letters(5000), truth(1), 0, api.OK)
	holdDo(t, "!=", letters(5000), letters(5001), truth(1), 0, api.OK)
}

func TestDoOrders(t *testing.T) {
	ints := []int{least, least + 1, -1 << 53, -2, -1, 0, 1, 2, 1 << 53, 1<<53 + 1, most - 1, most}
	for i, a := range ints {
		for j, b := range ints {
			holdOrder(t, whole(a), whole(b), i < j, i <= j)
		}
	}
	reals := []uint64{inf | minus, two63 | minus, one | minus, 1 | minus, 0, 1, half, one, two, two53, inf - 1, inf}
	for i, a := range reals {
		for j, b := range reals {
			holdOrder(t, point(a), point(b), i < j, i <= j)
		}
		for _, n := range []uint64{nan, nan | minus, inf | 1, inf | minus | 1, 0xffffffffffffffff, 0x7fffffffffffffff} {
			holdOrder(t, point(a), point(n), false, false)
			holdOrder(t, point(n), point(a), false, false)
			holdOrder(t, point(n), point(n), false, false)
		}
	}
	holdOrder(t, point(minus), point(0), false, true)
	holdOrder(t, point(0), point(minus), false, true)
}

func holdOrder(t *testing.T, a, b api.Value, less, atMost bool) {
	t.Helper()
	holdDo(t, "<", a, b, truthOf(less), 0, api.OK)
	holdDo(t, "<=", a, b, truthOf(atMost), 0, api.OK)
}

func truthOf(is bool) api.Value {
	if is {
		return truth(1)
	}
	return truth(0)
}

// several returns values of all tags and of some numbers that are none, no two of which are the same.
func several() []api.Value {
	return []api.Value{
		whole(0), whole(1), whole(-1), whole(3), point(0), point(1), point(one), truth(0), truth(1), truth(3), text(""), text("0"), text("1"), text("A"), text("true"),
		unit(), null(), object(0, "A"), object(1, "A"), object(3, "B"), object(-1, "A"),
	}
}

// strange returns values of tags that there are not.
func strange() []api.Value {
	return []api.Value{tagged(0), tagged(8), tagged(-1), tagged(9), tagged(1 << 32), tagged(1<<32 + 1), tagged(257), tagged(least), tagged(most)}
}

func TestDoSame(t *testing.T) {
	for i, a := range several() {
		for j, b := range several() {
			holdDo(t, "==", a, b, truthOf(i == j), 0, api.OK)
			holdDo(t, "!=", a, b, truthOf(i != j), 0, api.OK)
		}
	}
	for _, a := range strange() {
		for _, b := range append(several(), strange()...) {
			holdDo(t, "==", a, b, truth(0), 0, api.OK)
			holdDo(t, "!=", b, a, truth(1), 0, api.OK)
		}
	}
	holdDo(t, "==", point(nan), point(nan), truth(0), 0, api.OK)
	holdDo(t, "!=", point(nan), point(nan), truth(1), 0, api.OK)
	holdDo(t, "==", point(0), point(minus), truth(1), 0, api.OK)
	holdDo(t, "!=", point(0), point(minus), truth(0), 0, api.OK)
}

// TestDoNoOperation also gives what no operation takes, and divides by 0: that there is no such operation is found first.
func TestDoNoOperation(t *testing.T) {
	for _, op := range append(noSigns(), "&&", "||", "!", "real", "int", "len") {
		for _, a := range append(several(), strange()...) {
			for _, b := range []api.Value{a, whole(0), truth(1), tagged(0), letters(1001)} {
				holdDo(t, op, a, b, nothing(), 0, api.ErrArg)
			}
		}
	}
}

// TestDoTypes gives each operation all pairs of tags.
func TestDoTypes(t *testing.T) {
	for _, op := range append(calculations(), "<", "<=") {
		for _, a := range append(several(), strange()...) {
			for _, b := range append(several(), strange()...) {
				taken := a.Tag == b.Tag && (a.Tag == 1 || a.Tag == 2 && op != "%" || a.Tag == 4 && op == "+")
				if taken {
					if _, _, e := opers.Do(op, a, b); e != api.OK {
						t.Errorf("%+v %s %+v: error %d", a, op, b, e)
					}
					continue
				}
				holdDo(t, op, a, b, nothing(), 0, api.ErrType)
			}
		}
	}
	// What is refused ends in no trap.
	holdDo(t, "/", point(one), whole(0), nothing(), 0, api.ErrType)
	holdDo(t, "/", whole(1), point(0), nothing(), 0, api.ErrType)
	holdDo(t, "%", text("a"), whole(0), nothing(), 0, api.ErrType)
	holdDo(t, "+", letters(1001), whole(0), nothing(), 0, api.ErrType)
	holdDo(t, "+", whole(0), letters(1001), nothing(), 0, api.ErrType)
}

// P15.3

func TestTurnNumbers(t *testing.T) {
	for _, x := range [][2]int{{0, 0}, {1, -1}, {-1, 1}, {3, -3}, {most, least + 1}, {least + 1, most}, {least, least}} {
		holdTurn(t, "-", whole(x[0]), whole(x[1]), api.OK)
	}
	for _, x := range [][2]uint64{{0, minus}, {minus, 0}, {one, one | minus}, {one | minus, one}, {inf, inf | minus}, {1, 1 | minus}, {nan, nan}, {nan | minus, nan}, {inf | 1, nan}} {
		holdTurn(t, "-", point(x[0]), point(x[1]), api.OK)
	}
}

func TestTurnTruths(t *testing.T) {
	holdTurn(t, "!", truth(0), truth(1), api.OK)
	for _, n := range []int{1, 2, 7, -1, 1 << 32, 1 << 62, most, least} {
		holdTurn(t, "!", truth(n), truth(0), api.OK)
	}
}

func TestTurnWrong(t *testing.T) {
	for _, a := range append(several(), strange()...) {
		if a.Tag != 1 && a.Tag != 2 {
			holdTurn(t, "-", a, nothing(), api.ErrType)
		}
		if a.Tag != 3 {
			holdTurn(t, "!", a, nothing(), api.ErrType)
		}
		for _, op := range append(noSigns(), "+", "*", "/", "%", "<", "<=", "==", "!=", "&&", "||", "real", "int", "len") {
			holdTurn(t, op, a, nothing(), api.ErrArg)
		}
	}
}

func TestChangeToReal(t *testing.T) {
	for _, x := range []struct {
		n    int
		want uint64
	}{
		{0, 0}, {1, one}, {-1, one | minus}, {2, two}, {3, three}, {1 << 53, two53}, {1<<53 + 1, two53}, {1<<53 + 2, two53 + 1}, {1<<53 + 3, two53 + 2}, {most, two63}, {least, two63 | minus},
	} {
		holdChange(t, "real", whole(x.n), point(x.want), 0, api.OK)
	}
}

func TestChangeToInt(t *testing.T) {
	for _, x := range []struct {
		a    uint64
		want int
	}{
		{0, 0}, {minus, 0}, {one, 1}, {one | minus, -1}, {half, 0}, {half | minus, 0}, {0x3ff8000000000000, 1}, {0xbff8000000000000, -1}, {1, 0}, {two53, 1 << 53},
		{two63 - 1, most - 1023}, {two63 | minus, least}, {0x3fefffffffffffff, 0},
	} {
		holdChange(t, "int", point(x.a), whole(x.want), 0, api.OK)
	}
	for _, a := range []uint64{two63, two63 + 1, two63 | minus + 1, inf - 1, inf, inf | minus, nan, nan | minus, inf | 1, 0xffffffffffffffff} {
		holdChange(t, "int", point(a), nothing(), api.TrapRange, api.OK)
	}
}

func TestChangeToLength(t *testing.T) {
	for _, x := range []struct {
		s    string
		want int
	}{{"", 0}, {"a", 1}, {"ab", 2}, {"é", 2}, {"\x00\x00", 2}, {"\xff", 1}, {strings.Repeat("a", 1000), 1000}, {strings.Repeat("a", 1001), 1001}, {strings.Repeat("é", 3000), 6000}} {
		holdChange(t, "len", text(x.s), whole(x.want), 0, api.OK)
	}
}

func TestChangeWrong(t *testing.T) {
	for _, a := range append(append(several(), strange()...), point(nan), point(inf)) {
		for i, name := range conversionNames() {
			if a.Tag != []int{1, 2, 4}[i] {
				holdChange(t, name, a, nothing(), 0, api.ErrType)
			}
		}
		for _, name := range append(append(noSigns(), binaries()...), "!") {
			holdChange(t, name, a, nothing(), 0, api.ErrArg)
		}
	}
}

// P15.4

func TestSame(t *testing.T) {
	for i, a := range several() {
		for j, b := range several() {
			holdSame(t, a, b, i == j)
		}
	}
	for _, a := range strange() {
		for _, b := range append(several(), strange()...) {
			holdSame(t, a, b, false)
		}
	}
	for _, n := range []uint64{nan, nan | minus, inf | 1, 0xffffffffffffffff} {
		for _, a := range []uint64{nan, n, 0, minus, one, inf} {
			holdSame(t, point(n), point(a), false)
		}
	}
	holdSame(t, point(0), point(minus), true)
	holdSame(t, point(inf), point(inf|minus), false)
	holdSame(t, text("a"), text("a\x00"), false)
	holdSame(t, truth(1), truth(2), false)
	holdSame(t, truth(2), truth(2), true)
}

// TestSameObjects holds that objects are told apart by where they lie alone.
func TestSameObjects(t *testing.T) {
	chain := []api.Layer{{Class: "A", Label: 1}, {Out: true, Class: "B", Label: -2}}
	holdSame(t, object(3, "A"), object(3, "A", chain...), true)
	holdSame(t, object(3, "A", chain...), object(3, "A", chain[1:]...), true)
	holdSame(t, object(3, "A"), object(3, "B"), true)
	holdSame(t, object(3, "A", chain...), object(4, "A", chain...), false)
	holdSame(t, object(3, ""), whole(3), false)
	holdSame(t, object(0, ""), null(), false)
	if chain[0] != (api.Layer{Class: "A", Label: 1}) || chain[1] != (api.Layer{Out: true, Class: "B", Label: -2}) {
		t.Errorf("the chain is %+v", chain)
	}
}

func TestShow(t *testing.T) {
	for _, x := range []struct {
		a    api.Value
		want string
	}{
		{whole(0), "0"}, {whole(-3), "-3"}, {whole(120), "120"}, {whole(most), "9223372036854775807"}, {whole(least), "-9223372036854775808"},
		{point(0), "0000000000000000"}, {point(minus), "8000000000000000"}, {point(one), "3ff0000000000000"}, {point(inf), "7ff0000000000000"}, {point(1), "0000000000000001"},
		{point(nan), "7ff8000000000000"}, {point(nan | minus), "7ff8000000000000"}, {point(inf | 1), "7ff8000000000000"}, {point(0xabcdef), "0000000000abcdef"},
		{truth(1), "true"}, {truth(0), "false"}, {truth(2), "false"}, {truth(-1), "false"}, {truth(1<<32 + 1), "false"},
		{text(""), ""}, {text("a b"), "a b"}, {text("true"), "true"}, {text("\x00\xff\n\""), "\x00\xff\n\""}, {letters(3000), strings.Repeat("a", 3000)},
		{unit(), "()"}, {null(), "null"}, {object(1, "A"), "A"}, {object(0, "Cat2"), "Cat2"}, {object(3, ""), ""}, {object(3, "A", api.Layer{Class: "B", Label: 1}), "A"},
	} {
		holdShow(t, x.a, x.want)
	}
	for _, a := range strange() {
		holdShow(t, a, "")
	}
}

func TestZero(t *testing.T) {
	for _, x := range []struct {
		s    string
		want api.Value
	}{
		{"int", whole(0)}, {"real", point(0)}, {"bool", truth(0)}, {"str", text("")}, {"unit", unit()}, {"?", null()}, {"A", null()}, {"Cat2", null()}, {"Int", null()},
		{"A" + strings.Repeat("z", 19), null()},
	} {
		if v, e := opers.Zero(x.s); !equal(v, x.want) || e != api.OK {
			t.Errorf("%q: %+v, error %d", x.s, v, e)
		}
	}
	for _, s := range noTypes() {
		if v, e := opers.Zero(s); !equal(v, nothing()) || e != api.ErrType {
			t.Errorf("%q: %+v, error %d", s, v, e)
		}
	}
}
