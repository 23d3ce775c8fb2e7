package tree_test

import (
	"math"
	"slices"
	"strconv"
	"strings"
	"testing"

	"chaperon/api"
	"chaperon/tree"
)

// kid is a node of a kind without anything but kids.
func kid(kind int, kids ...api.Node) api.Node { return api.Node{Kind: kind, Kids: kids} }

// txt is a node of a kind with a Text.
func txt(kind int, text string, kids ...api.Node) api.Node {
	return api.Node{Kind: kind, Text: text, Kids: kids}
}

// typed is a node of a kind with a Type.
func typed(kind int, typ string, kids ...api.Node) api.Node {
	return api.Node{Kind: kind, Type: typ, Kids: kids}
}

// both is a node of a kind with a Text and a Type.
func both(kind int, text, typ string, kids ...api.Node) api.Node {
	return api.Node{Kind: kind, Text: text, Type: typ, Kids: kids}
}

// num is a node of a kind with an N.
func num(kind, n int) api.Node { return api.Node{Kind: kind, N: n} }

func unit() api.Node                     { return kid(api.KindUnit) }
func block(kids ...api.Node) api.Node    { return kid(api.KindBlock, kids...) }
func prog(kids ...api.Node) api.Node     { return kid(api.KindProg, kids...) }
func start(kids ...api.Node) api.Node    { return prog(block(kids...)) }
func class(kids ...api.Node) api.Node    { return txt(api.KindClass, "A", kids...) }
func field() api.Node                    { return both(api.KindField, "f", "int") }
func method(kids ...api.Node) api.Node   { return both(api.KindMethod, "m", "?", kids...) }
func param() api.Node                    { return both(api.KindParam, "p", "?") }
func letOf(kids ...api.Node) api.Node    { return both(api.KindLet, "x", "?", kids...) }
func times(n int, x api.Node) []api.Node { return slices.Repeat([]api.Node{x}, n) }

// list is nodes and lists of nodes, one after the other.
func list(parts ...any) []api.Node {
	var l []api.Node
	for _, p := range parts {
		switch x := p.(type) {
		case api.Node:
			l = append(l, x)
		case []api.Node:
			l = append(l, x...)
		}
	}
	return l
}

// row is so many expressions below one another, the last one a Unit.
func row(n int) api.Node {
	x := unit()
	for range n - 1 {
		x = kid(api.KindPrint, x)
	}
	return x
}

// full is a tree of an own memory that equals another one.
func full(n api.Node) api.Node {
	kids := n.Kids
	n.Kids = nil
	for _, k := range kids {
		n.Kids = append(n.Kids, full(k))
	}
	return n
}

// equal is a second reading of Same.
func equal(a, b api.Node) bool {
	return a.Kind == b.Kind && a.Text == b.Text && a.Type == b.Type && a.From == b.From && a.N == b.N && slices.EqualFunc(a.Kids, b.Kids, equal)
}

// show writes a tree, cut off if it is long.
func show(n api.Node) string {
	var all strings.Builder
	var write func(n api.Node)
	write = func(n api.Node) {
		if all.Len() > 400 {
			return
		}
		all.WriteString(strconv.Itoa(n.Kind))
		for _, s := range []string{n.Text, n.Type, n.From} {
			all.WriteString(" " + strconv.Quote(s[:min(len(s), 30)]))
		}
		all.WriteString(" " + strconv.Itoa(n.N))
		if len(n.Kids) > 0 {
			all.WriteString(" [")
			for _, k := range n.Kids {
				write(k)
				all.WriteString(", ")
			}
			all.WriteString("]")
		}
	}
	write(n)
	return all.String()
}

// holdFault holds the fault of a tree.
func holdFault(t *testing.T, n api.Node, err api.Errno, at int) {
	t.Helper()
	if f := tree.Check(n); f != (api.Fault{Err: err, At: at}) {
		t.Errorf("%s: error %d at %d, and not %d at %d", show(n), f.Err, f.At, err, at)
	}
}

// holdValid holds that trees are valid.
func holdValid(t *testing.T, l ...api.Node) {
	t.Helper()
	for _, n := range l {
		holdFault(t, n, api.OK, 0)
	}
}

// placed returns a tree in which a node is where its kind may be, and its place.
func placed(n api.Node) (api.Node, int) {
	switch n.Kind {
	case api.KindProg:
		return n, 0
	case api.KindClass:
		return prog(n, block()), 1
	case api.KindField, api.KindMethod:
		return prog(class(n), block()), 2
	case api.KindParam:
		return prog(class(method(n, block())), block()), 3
	case api.KindBlock:
		return prog(n), 1
	}
	return start(n), 2
}

// holdNode holds the error of nodes where they may be, with other nodes before and after them, the last of which is wrong.
func holdNode(t *testing.T, err api.Errno, l ...api.Node) {
	t.Helper()
	for _, x := range l {
		holdOne(t, err, x)
	}
}

func holdOne(t *testing.T, err api.Errno, x api.Node) {
	t.Helper()
	n, at := placed(x)
	if err == api.OK {
		at = 0
	}
	holdFault(t, n, err, at)
	if x.Kind == api.KindProg {
		return
	}
	first := both(api.KindClass, "B", "C", field(), field(), method(param(), block(unit(), unit())))
	n.Kids = list(first, n.Kids)
	if err != api.OK {
		at += 8
	}
	holdFault(t, n, err, at)
	main := &n.Kids[len(n.Kids)-1]
	main.Kids = list(main.Kids, num(api.KindInt, -1))
	if err == api.OK {
		err, at = api.ErrRange, len(preorder(n))-1
	}
	holdFault(t, n, err, at)
}

// The chapter's examples

func TestExamplesCheck(t *testing.T) {
	holdFault(t, start(num(api.KindInt, 3)), api.OK, 0)
	holdFault(t, block(), api.ErrForm, 0)
	holdFault(t, prog(), api.ErrForm, 0)
	holdFault(t, start(both(api.KindLet, "x", "?", num(api.KindInt, 3))), api.OK, 0)
	holdFault(t, start(txt(api.KindVar, "if")), api.ErrName, 2)
	holdFault(t, start(typed(api.KindNone, "a")), api.ErrName, 2)
	holdFault(t, start(num(api.KindInt, -1)), api.ErrRange, 2)
	holdFault(t, start(txt(api.KindGet, "a")), api.ErrForm, 2)
	holdFault(t, start(txt(api.KindUn, "?", unit())), api.ErrForm, 2)
	holdFault(t, start(kid(api.KindPrint, block())), api.ErrForm, 2)
	holdFault(t, start(typed(api.KindAs, "int2", unit())), api.ErrType, 2)
}

func TestExamplesOthers(t *testing.T) {
	n := start(num(api.KindInt, 3))
	if tree.Count(n) != 3 || tree.Depth(n) != 3 {
		t.Errorf("%d nodes, depth %d", tree.Count(n), tree.Depth(n))
	}
	if x, err := tree.At(n, 2); !equal(x, num(api.KindInt, 3)) || err != api.OK {
		t.Errorf("at 2: %s, error %d", show(x), err)
	}
	if x, err := tree.At(n, 3); !equal(x, api.Node{}) || x.Kids != nil || err != api.ErrRange {
		t.Errorf("at 3: %s, error %d", show(x), err)
	}
	if tree.Same(unit(), kid(api.KindThis)) {
		t.Error("Unit is This")
	}
}

// P12.1: what each kind has

// TestKinds holds that a node of each kind is valid with all that it requires.
func TestKinds(t *testing.T) {
	u := unit()
	holdNode(t, api.OK,
		prog(block()), prog(class(), block()), prog(class(), txt(api.KindClass, "B"), block(u)),
		class(), both(api.KindClass, "B", "A"), class(field(), field(), method(block()), method(block())), class(field()), class(method(block())),
		field(), both(api.KindField, "f", "?"), both(api.KindField, "f", "B"),
		method(block()), method(param(), block()), method(param(), param(), block(u)), both(api.KindMethod, "m", "unit", block()),
		param(), both(api.KindParam, "p", "str"),
		block(), block(u), block(u, letOf(u), u, letOf(u)), block(letOf(u), letOf(u)),
		num(api.KindInt, 0), num(api.KindInt, 1), num(api.KindInt, math.MaxInt),
		num(api.KindReal, 0), num(api.KindReal, 1), num(api.KindReal, 1<<53), txt(api.KindReal, "nan"), txt(api.KindReal, "inf"),
		num(api.KindBool, 0), num(api.KindBool, 1),
		txt(api.KindStr, ""), txt(api.KindStr, "a"), txt(api.KindStr, "\"\\\n ~"), txt(api.KindStr, strings.Repeat("\n", 1000)),
		u, kid(api.KindThis), kid(api.KindRead),
		typed(api.KindNone, "A"), typed(api.KindNone, "Cat2"),
		txt(api.KindVar, "a"), txt(api.KindVar, "x1Y"),
		letOf(u), both(api.KindLet, "y", "A", u),
		txt(api.KindSet, "a", u), txt(api.KindGet, "a", u), txt(api.KindPut, "a", u, u),
		txt(api.KindCall, "a", u), txt(api.KindCall, "a", u, u, u),
		txt(api.KindSuper, "a"), txt(api.KindSuper, "a", u, u),
		typed(api.KindNew, "A"), typed(api.KindNew, "A", u, u),
		kid(api.KindIf, u, block(), block()), kid(api.KindIf, u, block(u), block(letOf(u), u)),
		kid(api.KindWhile, u, block()),
		txt(api.KindUn, "-", u), txt(api.KindUn, "!", u),
		kid(api.KindPrint, u),
		typed(api.KindAs, "?", u), typed(api.KindAs, "real", u), typed(api.KindAs, "A", u),
		txt(api.KindConv, "real", u), txt(api.KindConv, "int", u), txt(api.KindConv, "len", u),
	)
	for _, s := range []string{"||", "&&", "==", "!=", "<", "<=", "+", "-", "*", "/", "%"} {
		holdNode(t, api.OK, txt(api.KindBin, s, u, u))
	}
}

// expressions returns a valid node of each kind of an expression.
func expressions() []api.Node {
	u := unit()
	return []api.Node{
		num(api.KindInt, 1), num(api.KindReal, 1), num(api.KindBool, 1), txt(api.KindStr, "a"), u, typed(api.KindNone, "A"), kid(api.KindThis), txt(api.KindVar, "a"),
		txt(api.KindSet, "a", u), txt(api.KindGet, "a", u), txt(api.KindPut, "a", u, u), txt(api.KindCall, "a", u), txt(api.KindSuper, "a"), typed(api.KindNew, "A"),
		kid(api.KindIf, u, block(), block()), kid(api.KindWhile, u, block()), txt(api.KindUn, "-", u), txt(api.KindBin, "+", u, u), kid(api.KindRead), kid(api.KindPrint, u),
		typed(api.KindAs, "int", u), txt(api.KindConv, "len", u),
	}
}

// others returns a node of each kind that is no expression, valid where it may be, and of kinds that there are not in a tree of a source.
func others() []api.Node {
	return []api.Node{
		prog(block()), class(), field(), method(block()), param(), block(), letOf(unit()),
		{}, kid(-1), kid(30), kid(31), kid(32), kid(33), kid(34), kid(35), kid(math.MaxInt), kid(math.MinInt),
		{Kind: api.KindCast, Type: "int", From: "?", N: 1, Kids: times(1, unit())},
		both(api.KindDynGet, "f", "?", unit()),
	}
}

// TestExpressions holds that all expressions, and nothing else, may be wherever an expression may.
func TestExpressions(t *testing.T) {
	u := unit()
	for _, x := range expressions() {
		holdNode(t, api.OK,
			block(x), block(x, u), block(u, x), letOf(x), txt(api.KindSet, "a", x), txt(api.KindGet, "a", x), txt(api.KindPut, "a", x, u), txt(api.KindPut, "a", u, x),
			txt(api.KindCall, "a", x), txt(api.KindCall, "a", u, x), txt(api.KindCall, "a", u, u, x), txt(api.KindSuper, "a", x), txt(api.KindSuper, "a", u, x), typed(api.KindNew, "A", x), typed(api.KindNew, "A", u, x),
			kid(api.KindIf, x, block(), block()), kid(api.KindWhile, x, block()), txt(api.KindUn, "!", x), txt(api.KindBin, "*", x, u), txt(api.KindBin, "*", u, x),
			kid(api.KindPrint, x), typed(api.KindAs, "int", x), txt(api.KindConv, "int", x),
		)
	}
	for i, x := range others() {
		if x.Kind != api.KindLet {
			holdNode(t, api.ErrForm, block(x), block(x, u), block(u, x))
		}
		holdNode(t, api.ErrForm,
			letOf(x), txt(api.KindSet, "a", x), txt(api.KindGet, "a", x), txt(api.KindPut, "a", x, u), txt(api.KindPut, "a", u, x),
			txt(api.KindCall, "a", x), txt(api.KindCall, "a", u, x), txt(api.KindCall, "a", u, u, x), txt(api.KindSuper, "a", x), txt(api.KindSuper, "a", u, x), typed(api.KindNew, "A", x), typed(api.KindNew, "A", u, x),
			kid(api.KindIf, x, block(), block()), kid(api.KindWhile, x, block()), txt(api.KindUn, "!", x), txt(api.KindBin, "*", x, u), txt(api.KindBin, "*", u, x),
			kid(api.KindPrint, x), typed(api.KindAs, "int", x), txt(api.KindConv, "int", x),
		)
		if t.Failed() {
			t.Fatalf("other %d", i)
		}
	}
}

// TestNotProg holds that nothing but a Prog may be at 0, whatever is below it.
func TestNotProg(t *testing.T) {
	for _, x := range append(expressions(), others()...) {
		if x.Kind != api.KindProg {
			holdFault(t, x, api.ErrForm, 0)
		}
	}
	holdFault(t, api.Node{}, api.ErrForm, 0)
	holdFault(t, block(txt(api.KindVar, "if")), api.ErrForm, 0)
	holdFault(t, txt(api.KindVar, "if"), api.ErrForm, 0)
	holdFault(t, num(api.KindInt, -1), api.ErrForm, 0)
}

// TestNoKids holds that kinds without kids have none.
func TestNoKids(t *testing.T) {
	for _, x := range append(expressions()[:8], kid(api.KindRead), field(), param()) {
		for _, k := range append(expressions(), others()...) {
			x.Kids = []api.Node{k}
			holdNode(t, api.ErrForm, x)
		}
	}
}

// TestKids holds kids of a wrong number or order.
func TestKids(t *testing.T) {
	u, b := unit(), block()
	holdNode(t, api.ErrForm,
		prog(), prog(class()), prog(b, b), prog(b, class()), prog(class(), b, class()), prog(b, u), prog(u), prog(u, b), prog(class(), class()), prog(field(), b), prog(letOf(u)), prog(prog(b)),
		class(u), class(b), class(method(b), field()), class(field(), method(b), field()), class(field(), u), class(u, field()), class(method(b), u), class(param()), class(class()), class(field(), param(), method(b)), class(letOf(u)),
		method(), method(param()), method(b, param()), method(b, b), method(u, b), method(param(), u), method(field(), b), method(param(), b, param()), method(param(), b, u), method(letOf(u), b), method(param(), param()),
		block(b), block(u, b, u), block(letOf(u), b), block(field()), block(param()), block(class()),
		letOf(), letOf(u, u), letOf(letOf(u)),
		txt(api.KindSet, "a"), txt(api.KindSet, "a", u, u), txt(api.KindGet, "a"), txt(api.KindGet, "a", u, u), txt(api.KindPut, "a"), txt(api.KindPut, "a", u), txt(api.KindPut, "a", u, u, u),
		txt(api.KindCall, "a"), txt(api.KindCall, "a", b), txt(api.KindCall, "a", b, u), txt(api.KindCall, "a", u, b), txt(api.KindSuper, "a", b), txt(api.KindSuper, "a", u, letOf(u)), typed(api.KindNew, "A", b),
		kid(api.KindIf), kid(api.KindIf, u), kid(api.KindIf, u, b), kid(api.KindIf, u, b, u), kid(api.KindIf, u, u, b), kid(api.KindIf, b, b, b), kid(api.KindIf, u, b, b, b), kid(api.KindIf, u, b, b, u), kid(api.KindIf, u, u, b, b), kid(api.KindIf, b, u, b), kid(api.KindIf, b, b, u),
		kid(api.KindWhile), kid(api.KindWhile, u), kid(api.KindWhile, u, u), kid(api.KindWhile, b, b), kid(api.KindWhile, b, u), kid(api.KindWhile, u, b, b), kid(api.KindWhile, u, u, b), kid(api.KindWhile, u, b, u), kid(api.KindWhile, b),
		txt(api.KindUn, "-"), txt(api.KindUn, "-", u, u), txt(api.KindBin, "-"), txt(api.KindBin, "-", u), txt(api.KindBin, "-", u, u, u),
		kid(api.KindPrint), kid(api.KindPrint, u, u), typed(api.KindAs, "int"), typed(api.KindAs, "int", u, u), txt(api.KindConv, "len"), txt(api.KindConv, "len", u, u),
	)
}

// TestManyKids holds how many kids there may be of those that are limited.
func TestManyKids(t *testing.T) {
	u, b, m := unit(), block(), method(block())
	holdNode(t, api.OK,
		prog(list(times(40, class()), b)...), class(times(20, field())...), class(times(20, m)...), class(list(times(20, field()), times(20, m))...), method(list(times(8, param()), b)...),
		block(times(1000, u)...), block(times(1000, letOf(u))...), txt(api.KindCall, "a", times(9, u)...), txt(api.KindSuper, "a", times(8, u)...), typed(api.KindNew, "A", times(8, u)...),
	)
	for _, more := range []int{1, 2, 40, 300} {
		holdNode(t, api.ErrMany,
			prog(list(times(40+more, class()), b)...), class(times(20+more, field())...), class(times(20+more, m)...), class(list(times(20, field()), times(20+more, m))...), class(list(times(20+more, field()), times(20, m))...), class(list(times(20+more, field()), times(20+more, m))...),
			method(list(times(8+more, param()), b)...), txt(api.KindCall, "a", times(9+more, u)...), txt(api.KindSuper, "a", times(8+more, u)...), typed(api.KindNew, "A", times(8+more, u)...),
		)
		holdNode(t, api.ErrForm,
			prog(times(40+more, class())...), prog(list(times(40+more, class()), b, b)...), prog(list(times(40+more, class()), u)...), prog(list(b, times(40+more, class()))...), class(list(times(20+more, field()), u)...), class(list(times(20+more, m), field())...), class(list(m, times(20+more, field()))...), class(list(times(20, field()), times(20+more, m), b)...),
			method(times(8+more, param())...), method(list(b, times(8+more, param()))...), method(list(times(8+more, field()), b)...), txt(api.KindCall, "a", list(b, times(8+more, u))...), txt(api.KindCall, "a", list(u, times(8+more, b))...), txt(api.KindCall, "a", list(times(9+more, u), b)...),
			txt(api.KindSuper, "a", list(times(8+more, u), letOf(u))...), typed(api.KindNew, "A", times(8+more, api.Node{})...), typed(api.KindNew, "A", list(times(8+more, u), b)...),
			txt(api.KindPut, "a", times(8+more, u)...), kid(api.KindPrint, times(40+more, u)...), kid(api.KindIf, list(u, times(40+more, b))...), txt(api.KindVar, "a", times(8+more, u)...),
		)
	}
	// A node that cannot be one is told ahead of what else is wrong with it.
	holdNode(t, api.ErrMany, api.Node{Kind: api.KindSuper, Text: "if", Type: "A", From: "A", N: 1, Kids: times(9, u)}, api.Node{Kind: api.KindNew, Text: "if", Type: "a", Kids: times(9, u)}, txt(api.KindClass, "a", times(21, field())...), txt(api.KindMethod, "", list(times(9, param()), b)...))
	holdNode(t, api.ErrMany, class(times(21, both(api.KindField, "if", "none"))...))
}

// TestNotNamed holds that what is not named is 0 or empty.
func TestNotNamed(t *testing.T) {
	u, b := unit(), block()
	noText := []api.Node{prog(b), b, num(api.KindInt, 1), num(api.KindBool, 1), u, kid(api.KindThis), kid(api.KindRead), typed(api.KindNone, "A"), typed(api.KindNew, "A"), kid(api.KindIf, u, b, b), kid(api.KindWhile, u, b), kid(api.KindPrint, u), typed(api.KindAs, "?", u)}
	noN := []api.Node{prog(b), class(), field(), method(b), param(), b, txt(api.KindStr, "a"), u, kid(api.KindThis), kid(api.KindRead), typed(api.KindNone, "A"), txt(api.KindVar, "a"), letOf(u), txt(api.KindSet, "a", u), txt(api.KindGet, "a", u), txt(api.KindPut, "a", u, u), txt(api.KindCall, "a", u), txt(api.KindSuper, "a"), typed(api.KindNew, "A"), kid(api.KindIf, u, b, b), kid(api.KindWhile, u, b), txt(api.KindUn, "-", u), txt(api.KindBin, "-", u, u), kid(api.KindPrint, u), typed(api.KindAs, "?", u), txt(api.KindConv, "int", u)}
	noType := []api.Node{prog(b), b, num(api.KindInt, 1), num(api.KindReal, 1), txt(api.KindReal, "nan"), num(api.KindBool, 1), txt(api.KindStr, "a"), u, kid(api.KindThis), kid(api.KindRead), txt(api.KindVar, "a"), txt(api.KindSet, "a", u), txt(api.KindGet, "a", u), txt(api.KindPut, "a", u, u), txt(api.KindCall, "a", u), txt(api.KindSuper, "a"), kid(api.KindIf, u, b, b), kid(api.KindWhile, u, b), txt(api.KindUn, "-", u), txt(api.KindBin, "-", u, u), kid(api.KindPrint, u), txt(api.KindConv, "int", u)}
	for _, x := range noText {
		for _, s := range []string{"a", "A", "int", "?", " ", "\x00", "-", "nan"} {
			x.Text = s
			holdNode(t, api.ErrForm, x)
		}
	}
	for _, x := range noType {
		for _, s := range []string{"a", "A", "int", "?", " ", "\x00"} {
			x.Type = s
			holdNode(t, api.ErrForm, x)
		}
	}
	for _, x := range noN {
		for _, n := range []int{1, -1, 2, math.MaxInt, math.MinInt, 1 << 32} {
			x.N = n
			holdNode(t, api.ErrForm, x)
		}
	}
	for _, x := range append(expressions(), prog(b), class(), field(), method(b), param(), b, letOf(u)) {
		for _, s := range []string{"A", "int", "?", "a", " "} {
			x.From = s
			holdNode(t, api.ErrForm, x)
		}
	}
}

// TestWords holds the texts that are one of a few.
func TestWords(t *testing.T) {
	u := unit()
	all := strings.Fields("|| && == != < <= + - * / % ! real int len nan inf")
	wrong := []string{"", " ", "a", "A", "?", ">", ">=", "=", "&", "|", "|||", "+ -", "- ", " -", "--", "-!", "- !", "real int", "lens", "le", "Int", "bool", "str", "unit", "none", "NaN", "Inf", "-inf", "inf nan", "nan ", "0", "1", "\n"}
	for kind, right := range map[int][]string{
		api.KindBin:  all[:11],
		api.KindUn:   {"-", "!"},
		api.KindConv: all[12:15],
		api.KindReal: append(slices.Clone(all[15:]), ""),
	} {
		kids := map[int]int{api.KindBin: 2, api.KindUn: 1, api.KindConv: 1}[kind]
		for _, s := range append(slices.Clone(all), wrong...) {
			want := api.ErrForm
			if slices.Contains(right, s) {
				want = api.OK
			}
			holdNode(t, want, txt(kind, s, times(kids, u)...))
		}
	}
}

// TestReals holds that nan and inf have no number.
func TestReals(t *testing.T) {
	for _, n := range []int{1, -1, 1 << 53, 1<<53 + 1, math.MaxInt, math.MinInt} {
		for _, s := range []string{"nan", "inf", "x"} {
			holdNode(t, api.ErrForm, api.Node{Kind: api.KindReal, Text: s, N: n})
		}
	}
}

// TestContents holds each byte of a text at each end and in the middle.
func TestContents(t *testing.T) {
	for c := range 256 {
		want := api.ErrForm
		if c >= 32 && c <= 126 || c == 10 {
			want = api.OK
		}
		s := string([]byte{byte(c)})
		holdNode(t, want, txt(api.KindStr, s), txt(api.KindStr, "a"+s), txt(api.KindStr, s+"a"), txt(api.KindStr, "a\n"+s+"\n~ "))
	}
	holdNode(t, api.ErrForm, txt(api.KindStr, "é"), txt(api.KindStr, "�"), txt(api.KindStr, strings.Repeat("a", 999)+"\t"), txt(api.KindStr, strings.Repeat("a", 1001)+"\x00"), txt(api.KindStr, "\x7f"+strings.Repeat("a", 1001)), api.Node{Kind: api.KindStr, Text: strings.Repeat("a", 1001), N: 1})
	holdNode(t, api.OK, txt(api.KindStr, strings.Repeat("~", 999)), txt(api.KindStr, strings.Repeat(" ", 1000)))
	holdNode(t, api.ErrLong, txt(api.KindStr, strings.Repeat("a", 1001)), txt(api.KindStr, strings.Repeat("\n", 1002)), txt(api.KindStr, strings.Repeat(" ", 1<<20)))
}

// holdText holds a Text and a Type of all kinds that have a name there, or a class name, or a type.
func holdText(t *testing.T, s string, isName, isClass, isType bool) {
	t.Helper()
	u, b := unit(), block()
	want := func(is bool, err api.Errno) api.Errno {
		if is {
			return api.OK
		}
		return err
	}
	holdNode(t, want(isName, api.ErrName),
		both(api.KindField, s, "int"), both(api.KindParam, s, "int"), both(api.KindMethod, s, "int", b), txt(api.KindVar, s), both(api.KindLet, s, "int", u), txt(api.KindSet, s, u), txt(api.KindGet, s, u), txt(api.KindPut, s, u, u), txt(api.KindCall, s, u), txt(api.KindSuper, s))
	holdNode(t, want(isClass, api.ErrName), txt(api.KindClass, s), both(api.KindClass, s, "B"), typed(api.KindNone, s), typed(api.KindNew, s))
	holdNode(t, want(isClass || s == "", api.ErrName), both(api.KindClass, "A", s))
	holdNode(t, want(isType, api.ErrType), both(api.KindField, "f", s), both(api.KindParam, "p", s), both(api.KindMethod, "m", s, b), both(api.KindLet, "x", s, u), typed(api.KindAs, s, u))
}

func TestNames(t *testing.T) {
	for _, s := range []string{"a", "z", "x1Y", "nothing", "zZ09", strings.Repeat("a", 20)} {
		holdText(t, s, true, false, false)
	}
	for _, s := range []string{"A", "Z", "Cat2", "A1b", strings.Repeat("A", 20)} {
		holdText(t, s, false, true, true)
	}
	for _, s := range []string{"int", "real", "bool", "str", "unit", "?"} {
		holdText(t, s, false, false, true)
	}
	for _, s := range strings.Fields("class def var main let if else while new none this super read print true false nan inf len") {
		holdText(t, s, false, false, false)
	}
	for _, s := range []string{"", " ", "a b", "a ", " a", "1", "2C", "a_b", "A_b", "_", "é", "a\x00", "A\n", "??", "? ", "-", strings.Repeat("a", 21), strings.Repeat("A", 21), strings.Repeat("A", 1<<16)} {
		holdText(t, s, false, false, false)
	}
}

func TestNumbers(t *testing.T) {
	holdNode(t, api.OK, num(api.KindInt, 0), num(api.KindInt, 1<<53+1), num(api.KindInt, math.MaxInt), num(api.KindReal, 0), num(api.KindReal, 1<<53-1), num(api.KindReal, 1<<53), num(api.KindBool, 0), num(api.KindBool, 1))
	holdNode(t, api.ErrRange, num(api.KindInt, -1), num(api.KindInt, math.MinInt), num(api.KindReal, -1), num(api.KindReal, 1<<53+1), num(api.KindReal, math.MaxInt), num(api.KindReal, math.MinInt), num(api.KindBool, -1), num(api.KindBool, 2), num(api.KindBool, math.MaxInt), num(api.KindBool, math.MinInt))
}

// TestOrder holds which error of one node comes first.
func TestOrder(t *testing.T) {
	u, b := unit(), block()
	holdNode(t, api.ErrForm,
		api.Node{Kind: api.KindGet, Text: "if"}, api.Node{Kind: api.KindField, Text: "if", Type: "none", N: 1}, api.Node{Kind: api.KindField, Text: "if", Type: "none", From: "A"}, api.Node{Kind: api.KindClass, Text: "a", From: "A"}, api.Node{Kind: api.KindNone, Text: "a", Type: "a"}, api.Node{Kind: api.KindAs, Type: "int2", N: 1, Kids: times(1, u)}, api.Node{Kind: api.KindAs, Type: "int2", Text: "a", Kids: times(1, u)},
		api.Node{Kind: api.KindInt, Text: "a", N: -1}, api.Node{Kind: api.KindBool, From: "a", N: 2}, api.Node{Kind: api.KindReal, Type: "a", N: -1}, api.Node{Kind: api.KindVar, Text: "if", Type: "a"}, both(api.KindLet, "if", "none"), api.Node{Kind: api.KindStr, Text: strings.Repeat("a", 1001), Type: "str"}, both(api.KindMethod, "if", "none"),
	)
	holdNode(t, api.ErrName, both(api.KindField, "if", "none"), both(api.KindParam, "A", "int2"), both(api.KindMethod, "", "", b), both(api.KindLet, "", "", u), both(api.KindClass, "a", "A"), both(api.KindClass, "A", "a"), both(api.KindClass, "a", "a"))
	holdNode(t, api.ErrType, both(api.KindField, "f", ""), both(api.KindLet, "x", "", u), both(api.KindMethod, "m", "", b), typed(api.KindAs, "", u))
}

// TestFirst holds that the first node with a fault is told, in the order of places.
func TestFirst(t *testing.T) {
	u := unit()
	range2, form3, name4, type5 := num(api.KindInt, -1), txt(api.KindUn, "?", u), txt(api.KindVar, "if"), typed(api.KindAs, "", u)
	holdFault(t, start(range2, form3, name4, type5), api.ErrRange, 2)
	holdFault(t, start(u, form3, range2), api.ErrForm, 3)
	holdFault(t, start(u, u, type5, form3), api.ErrType, 4)
	holdFault(t, start(kid(api.KindPrint, name4), form3), api.ErrName, 3)
	holdFault(t, start(txt(api.KindGet, "if", range2)), api.ErrName, 2)
	holdFault(t, start(txt(api.KindPut, "a", kid(api.KindPrint, kid(api.KindPrint, range2)), name4)), api.ErrRange, 5)
	holdFault(t, start(txt(api.KindPut, "a", kid(api.KindPrint, kid(api.KindPrint, u)), name4)), api.ErrName, 6)
	holdFault(t, prog(class(field(), both(api.KindMethod, "m", "int", param(), block(name4)), method(block(range2))), block(form3)), api.ErrName, 6)
	holdFault(t, prog(class(field(), method(param(), block(u)), method(block(range2))), block(form3)), api.ErrRange, 9)
	holdFault(t, prog(class(), block(form3), block()), api.ErrForm, 0)
	holdFault(t, txt(api.KindProg, "a", block(range2)), api.ErrForm, 0)
	// What is below a node with a fault is told after it, and what is beside its kids as well.
	holdFault(t, start(kid(api.KindIf, range2, u, block(form3))), api.ErrForm, 2)
	holdFault(t, start(kid(api.KindIf, u, block(range2), block(form3))), api.ErrRange, 5)
	holdFault(t, start(kid(api.KindIf, u, block(), block(form3))), api.ErrForm, 6)
}

// P12.1: trees that are too large or too deep

func TestMany(t *testing.T) {
	u := unit()
	holdValid(t, start(times(4997, u)...), start(times(4998, u)...))
	for _, n := range []int{4999, 5000, 5001, 20000, 1 << 20} {
		holdFault(t, start(times(n, u)...), api.ErrMany, 0)
	}
	// ErrMany comes ahead of all else, wherever it is.
	wrong := num(api.KindInt, -1)
	holdFault(t, start(times(4998, wrong)...), api.ErrRange, 2)
	holdFault(t, start(times(4999, wrong)...), api.ErrMany, 0)
	holdFault(t, block(times(4999, u)...), api.ErrForm, 0)
	holdFault(t, block(times(5000, u)...), api.ErrMany, 0)
	holdFault(t, kid(77, times(5000, kid(-1))...), api.ErrMany, 0)
	holdFault(t, start(list(row(58), times(4999-58, u))...), api.ErrMany, 0)
	holdFault(t, start(list(row(58), times(4998-58, u))...), api.OK, 0)
	holdFault(t, start(list(row(59), times(4999-59, u))...), api.ErrMany, 0)
	holdFault(t, start(list(times(4999-59, u), row(59))...), api.ErrMany, 0)
	holdFault(t, row(5001), api.ErrMany, 0)
	holdFault(t, row(1<<20), api.ErrMany, 0)
	// Nodes are counted in all rows of kids.
	tens := times(10, kid(api.KindIf, u, block(times(4, u)...), block(times(4, u)...)))
	holdFault(t, start(slices.Repeat(tens, 41)...), api.OK, 0)
	holdFault(t, start(list(slices.Repeat(tens, 41), times(78, u))...), api.OK, 0)
	holdFault(t, start(list(slices.Repeat(tens, 41), times(79, u))...), api.ErrMany, 0)
}

func TestDeep(t *testing.T) {
	u := unit()
	holdValid(t, start(row(57)), start(row(58)), start(list(times(30, row(58)), u)...))
	for _, n := range []int{59, 60, 61, 100, 2000} {
		holdFault(t, start(row(n)), api.ErrDeep, 60)
		holdFault(t, start(u, row(n), u), api.ErrDeep, 61)
		holdFault(t, start(row(58), row(n), row(n+1)), api.ErrDeep, 118)
	}
	holdFault(t, start(row(4998)), api.ErrDeep, 60)
	// ErrDeep comes ahead of all but ErrMany.
	holdFault(t, start(num(api.KindInt, -1), row(59)), api.ErrDeep, 61)
	holdFault(t, start(row(59), num(api.KindInt, -1)), api.ErrDeep, 60)
	holdFault(t, row(61), api.ErrDeep, 60)
	holdFault(t, row(60), api.ErrForm, 0)
	holdFault(t, kid(-1, row(61)), api.ErrDeep, 60)
	holdFault(t, txt(api.KindProg, "a", row(60)), api.ErrDeep, 60)
	// It is the first node that is too deep, not the deepest one.
	deep := row(58)
	last := &deep
	for range 56 {
		last = &last.Kids[0]
	}
	last.Kids = times(1, kid(api.KindIf, u, block(row(3)), block(row(30))))
	holdFault(t, start(deep), api.ErrDeep, 60)
	holdFault(t, start(unit(), kid(api.KindPrint, unit()), deep), api.ErrDeep, 63)
}

// TestNeverEnding holds that trees are refused whose kids are shared so often that no one could visit them all, or are below themselves.
func TestNeverEnding(t *testing.T) {
	n := unit()
	for range 200 {
		n = block(n, n)
	}
	holdFault(t, n, api.ErrMany, 0)
	holdFault(t, prog(n), api.ErrMany, 0)
	ring := make([]api.Node, 2)
	ring[0], ring[1] = block(), unit()
	ring[0].Kids = ring
	holdFault(t, prog(ring...), api.ErrMany, 0)
	ring = make([]api.Node, 1)
	ring[0] = api.Node{Kind: api.KindPrint, Kids: ring}
	holdFault(t, start(ring...), api.ErrMany, 0)
	if tree.Same(n, ring[0]) || tree.Same(ring[0], n) || tree.Same(ring[0], unit()) {
		t.Error("a ring is the same as what is none")
	}
}
