package parser_test

import (
	"bytes"
	"slices"
	"strconv"
	"strings"
	"testing"

	"chaperon/api"
	"chaperon/parser"
	"chaperon/tree"
)

// The keys and the signs.
const (
	words = "class def var main let if else while new none this super read print true false nan inf int real bool str unit len"
	signs = "&& || == != <= { } ( ) : ; , . = < + - * / % ! ?"
)

// kid is a node of a kind without anything but kids.
func kid(kind int, kids ...api.Node) api.Node { return api.Node{Kind: kind, Kids: kids} }

// txt is a node of a kind with a Text.
func txt(kind int, text string, kids ...api.Node) api.Node {
	return api.Node{Kind: kind, Text: text, Kids: kids}
}

// typed is a node of a kind with a Type.
func typed(kind int, typ string, kids ...api.Node) api.Node {
	return api.Node{Kind: kind, Type: typ, Kids: kids}
}

// both is a node of a kind with a Text and a Type.
func both(kind int, text, typ string, kids ...api.Node) api.Node {
	return api.Node{Kind: kind, Text: text, Type: typ, Kids: kids}
}

// num is a node of a kind with an N.
func num(kind, n int) api.Node { return api.Node{Kind: kind, N: n} }

func whole(n int) api.Node                       { return num(api.KindInt, n) }
func unit() api.Node                             { return kid(api.KindUnit) }
func this() api.Node                             { return kid(api.KindThis) }
func name(s string) api.Node                     { return txt(api.KindVar, s) }
func set(s string, x api.Node) api.Node          { return txt(api.KindSet, s, x) }
func get(s string, x api.Node) api.Node          { return txt(api.KindGet, s, x) }
func put(s string, x, y api.Node) api.Node       { return txt(api.KindPut, s, x, y) }
func call(s string, kids ...api.Node) api.Node   { return txt(api.KindCall, s, kids...) }
func un(s string, x api.Node) api.Node           { return txt(api.KindUn, s, x) }
func bin(s string, x, y api.Node) api.Node       { return txt(api.KindBin, s, x, y) }
func as(s string, x api.Node) api.Node           { return typed(api.KindAs, s, x) }
func newOf(s string, kids ...api.Node) api.Node  { return typed(api.KindNew, s, kids...) }
func letOf(s, typ string, x api.Node) api.Node   { return both(api.KindLet, s, typ, x) }
func block(kids ...api.Node) api.Node            { return kid(api.KindBlock, kids...) }
func ifOf(x, y, z api.Node) api.Node             { return kid(api.KindIf, x, y, z) }
func while(x, y api.Node) api.Node               { return kid(api.KindWhile, x, y) }
func prog(kids ...api.Node) api.Node             { return kid(api.KindProg, kids...) }
func class(s, of string, l ...api.Node) api.Node { return both(api.KindClass, s, of, l...) }
func field(s, typ string) api.Node               { return both(api.KindField, s, typ) }
func param(s, typ string) api.Node               { return both(api.KindParam, s, typ) }

// method is a method with these parameters and, at last, its block.
func method(s, typ string, kids ...api.Node) api.Node {
	return both(api.KindMethod, s, typ, kids...)
}

// equal is a second reading of what makes two trees equal.
func equal(a, b api.Node) bool {
	return a.Kind == b.Kind && a.Text == b.Text && a.Type == b.Type && a.From == b.From && a.N == b.N && slices.EqualFunc(a.Kids, b.Kids, equal)
}

// preorder returns the nodes of a tree, each before its kids.
func preorder(n api.Node) []*api.Node {
	var l []*api.Node
	var visit func(n *api.Node)
	visit = func(n *api.Node) {
		l = append(l, n)
		for i := range n.Kids {
			visit(&n.Kids[i])
		}
	}
	visit(&n)
	return l
}

// short cuts a long text off, so that it can be told.
func short(s string) string {
	if len(s) > 300 {
		return strconv.Quote(s[:300]) + ".. (" + strconv.Itoa(len(s)) + " bytes)"
	}
	return strconv.Quote(s)
}

// show writes a tree, cut off if it is long.
func show(n api.Node) string {
	var all strings.Builder
	var write func(n api.Node)
	write = func(n api.Node) {
		if all.Len() > 1000 {
			return
		}
		all.WriteString(strconv.Itoa(n.Kind))
		for _, s := range []string{n.Text, n.Type, n.From} {
			if s != "" {
				all.WriteString(" " + strconv.Quote(s[:min(len(s), 30)]))
			}
		}
		if n.N != 0 {
			all.WriteString(" " + strconv.Itoa(n.N))
		}
		if len(n.Kids) > 0 {
			all.WriteString("[")
			for i, k := range n.Kids {
				if i > 0 {
					all.WriteString(", ")
				}
				write(k)
			}
			all.WriteString("]")
		}
	}
	write(n)
	return all.String()
}

// holdTree holds the tree of a source.
func holdTree(t *testing.T, s string, want api.Node) {
	t.Helper()
	if n, f := parser.Parse([]byte(s)); f != (api.Fault{}) || !equal(n, want) {
		t.Errorf("%s: %s %v, and not %s", short(s), show(n), f, show(want))
	}
}

// holdMain holds the entries of a block: main's, and that of a method.
func holdMain(t *testing.T, s string, want ...api.Node) {
	t.Helper()
	holdTree(t, "main{"+s+"}", prog(block(want...)))
	holdTree(t, "class A{def m(){"+s+"}}main{"+s+"}", prog(class("A", "", method("m", "?", block(want...))), block(want...)))
}

// holdExpr holds the tree of an expression, wherever it stands.
func holdExpr(t *testing.T, s string, x api.Node) {
	t.Helper()
	holdMain(t, s, x)
	holdMain(t, s+";", x)
	holdMain(t, "let y:C="+s+";("+s+");a="+s, letOf("y", "C", x), x, set("a", x))
	holdMain(t, "("+s+":real)+1;print("+s+")", bin("+", as("real", x), whole(1)), kid(api.KindPrint, x))
	holdMain(t, "if "+s+"{"+s+"}else{"+s+"};while "+s+"{}", ifOf(x, block(x), block(x)), while(x, block()))
	holdMain(t, "a.f("+s+","+s+").g="+s+";new A("+s+");super.m("+s+")", put("g", call("f", name("a"), x, x), x), newOf("A", x), txt(api.KindSuper, "m", x))
}

// holdFault holds the fault of a source, and that nothing else is returned.
func holdFault(t *testing.T, s string, err api.Errno, at int) {
	t.Helper()
	if n, f := parser.Parse([]byte(s)); f != (api.Fault{Err: err, At: at}) || !equal(n, api.Node{}) || n.Kids != nil {
		t.Errorf("%s: %s %v, and not error %d at %d", short(s), show(n), f, err, at)
	}
}

// holdForm holds that a source, in which a ^ marks the first token that may not stand there, or the end, is refused there, with a blank in its place.
func holdForm(t *testing.T, l ...string) {
	t.Helper()
	for _, s := range l {
		before, after, is := strings.Cut(s, "^")
		switch {
		case !is:
			t.Errorf("%s has no mark", s)
		case after == "":
			holdFault(t, before, api.ErrForm, len(before))
			holdFault(t, before+"\t// c", api.ErrForm, len(before)+5)
		default:
			holdFault(t, before+" "+after, api.ErrForm, len(before)+1)
			holdFault(t, before+" \n"+after+" 1 x } main {", api.ErrForm, len(before)+2)
		}
	}
}

// holdBody holds the same within main's block.
func holdBody(t *testing.T, l ...string) {
	t.Helper()
	for _, s := range l {
		holdForm(t, "main{"+s, "class A{def m(){"+s)
	}
}

// The chapter's examples

func TestExamples(t *testing.T) {
	holdTree(t, "main{}", prog(block()))
	holdMain(t, "1+2*3;", bin("+", whole(1), bin("*", whole(2), whole(3))))
	holdMain(t, "x=y.f(1).g", set("x", get("g", call("f", name("y"), whole(1)))))
	holdMain(t, "a.b=(c:?)", put("b", name("a"), as("?", name("c"))))
	holdMain(t, "-1-()", bin("-", un("-", whole(1)), unit()))
	holdTree(t, "class A:B{var x;def f(a:int):A{this}}main{}", prog(class("A", "B", field("x", "?"), method("f", "A", param("a", "int"), block(this()))), block()))
	holdFault(t, "none", api.ErrForm, 0)
	holdFault(t, "main{1=2}", api.ErrForm, 6)
	holdFault(t, "main{let x}", api.ErrForm, 10)
	holdFault(t, "main{} 1", api.ErrForm, 7)
	holdFault(t, "main{\"", api.ErrForm, 5)
	holdFault(t, "main{1", api.ErrForm, 6)
}

// TestNumbersOfErrors holds the numbers of errors themselves.
func TestNumbersOfErrors(t *testing.T) {
	if e := []api.Errno{api.OK, api.ErrRange, api.ErrLong, api.ErrForm, api.ErrDeep, api.ErrMany}; !slices.Equal(e, []api.Errno{0, 3, 4, 5, 11, 12}) {
		t.Error(e)
	}
}

// TestNoSource holds that no bytes are a source like any other one.
func TestNoSource(t *testing.T) {
	for _, b := range [][]byte{nil, {}} {
		if n, f := parser.Parse(b); f != (api.Fault{Err: api.ErrForm}) || !equal(n, api.Node{}) {
			t.Errorf("%s %v", show(n), f)
		}
	}
}

// P13.1: programs

func TestPrograms(t *testing.T) {
	holdTree(t, "class A{}main{}", prog(class("A", ""), block()))
	holdTree(t, "class A{}class B:A{}class A:C{}main{1}", prog(class("A", ""), class("B", "A"), class("A", "C"), block(whole(1))))
	holdTree(t, "class A{var a;var b:int;var c:?;var d:A;}main{}", prog(class("A", "", field("a", "?"), field("b", "int"), field("c", "?"), field("d", "A")), block()))
	holdTree(t, "class A{def a(){}def b():unit{()}}main{}", prog(class("A", "", method("a", "?", block()), method("b", "unit", block(unit()))), block()))
	holdTree(t, "class A{var a;def a(a){a}def a(){}}main{}", prog(class("A", "", field("a", "?"), method("a", "?", param("a", "?"), block(name("a"))), method("a", "?", block())), block()))
	holdTree(t, "class A{def m(a,b:?,c:str,d:A):?{a;b}}main{}", prog(class("A", "", method("m", "?", param("a", "?"), param("b", "?"), param("c", "str"), param("d", "A"), block(name("a"), name("b")))), block()))
	holdForm(t, "^", " \n^", "^x", "^Class", "^;main{}", "^{}", "^1", `^"main{}"`, "^def f(){}", "^var x;main{}", "^let x=1", "main^", "main^main{}", "main^(){}", "main^;", "main{}^;", "main{}^main{}", "main{}^class A{}", "main{}^}", "main{}^{}",
		"class^", "class^a{}", "class^int{}", "class^?{}", "class^class A{}", "class^{}", "class A^", "class A^main{}", "class A^(B){}", "class A^B{}", "class A^;", "class A:^", "class A:^b{}", "class A:^?{}", "class A:^int{}", "class A:^{}", "class A:B^", "class A:B^:C{}", "class A:B^,C{}",
		"class A{^", "class A{^main{}", "class A{^;}", "class A{^x}", "class A{^let x=1}", "class A{^class B{}}", "class A{}^", "class A{}^}", "class A{}^;", "class A{}^main2", "class A{}^x")
}

func TestMembers(t *testing.T) {
	holdForm(t, "class A{var^", "class A{var^X;}", "class A{var^if;}", "class A{var^1;}", "class A{var^;}", "class A{var x^", "class A{var x^}", "class A{var x^,y;}", "class A{var x^=1;}", "class A{var x^int;}", "class A{var x:^", "class A{var x:^x;}", "class A{var x:^;}", "class A{var x:^len;}", "class A{var x:int^", "class A{var x:int^}", "class A{var x:int^:int;}", "class A{var x;^", "class A{var x;^;}", "class A{var x;^y;}",
		"class A{def^", "class A{def^M(){}}", "class A{def^new(){}}", "class A{def^(){}}", "class A{def m^", "class A{def m^{}}", "class A{def m^:int{}}", "class A{def m^;}", "class A{def m(^", "class A{def m(^,a){}}", "class A{def m(^A){}}", "class A{def m(^this){}}", "class A{def m(^int a){}}", "class A{def m(a^", "class A{def m(a^b){}}", "class A{def m(a^;b){}}", "class A{def m(a^=1){}}", "class A{def m(a^{}}", "class A{def m(a:^", "class A{def m(a:^a){}}", "class A{def m(a:^){}}", "class A{def m(a:A^:A){}}", "class A{def m(a,^", "class A{def m(a,^){}}", "class A{def m(a,^,b){}}", "class A{def m(a,b:?^", "class A{def m()^", "class A{def m()^;}", "class A{def m()^=1}", "class A{def m()^}", "class A{def m()^()}", "class A{def m():^", "class A{def m():^{}}", "class A{def m():^a{}}", "class A{def m():int^", "class A{def m():int^;}", "class A{def m():A^B{}}", "class A{def m(){^", "class A{def m(){}^", "class A{def m(){}^;}", "class A{def m(){}^var x;}", "class A{def m(){}^main{}", "class A{var x;def m(){}def n(){}^var y;}", "class A{def m(){}}^")
}

// TestTypes holds each type wherever one may stand.
func TestTypes(t *testing.T) {
	for _, s := range []string{"int", "real", "bool", "str", "unit", "?", "A", "Cat2", "If", strings.Repeat("Z", 20)} {
		holdTree(t, "class A{var x:"+s+";def m(a:"+s+",b:"+s+"):"+s+"{}}main{}", prog(class("A", "", field("x", s), method("m", s, param("a", s), param("b", s), block())), block()))
		holdExpr(t, "(x:"+s+")", as(s, name("x")))
		holdMain(t, "let x:"+s+"=1", letOf("x", s, whole(1)))
	}
	types := " int real bool str unit ? "
	for x := range strings.FieldsSeq(words + " " + signs + " a x1 1 2r \"A\" \"int\"") {
		if !strings.Contains(types, " "+x+" ") {
			holdForm(t, "class A{var x:^"+x, "class A{def m(a:^"+x, "class A{def m():^"+x, "main{let x:^"+x, "main{(x:^"+x)
		}
	}
}

// P13.1: blocks

func TestBlocks(t *testing.T) {
	holdMain(t, "")
	holdMain(t, "1", whole(1))
	holdMain(t, "1;", whole(1))
	holdMain(t, "1;2;x;", whole(1), whole(2), name("x"))
	holdMain(t, "let a=1;let b:int=a;b", letOf("a", "?", whole(1)), letOf("b", "int", name("a")), name("b"))
	holdMain(t, "let a=a.b=c=1;", letOf("a", "?", put("b", name("a"), set("c", whole(1)))))
	holdBody(t, "^", "^;", "^;1}", "1;^;}", "1^2}", "1^let x=1}", "1^,2}", "1;2^", "1;^", "1;let^", "^{}", "^)", "^var x;}", "^class A{}", "^def f(){}", "^main{}", "^else{}",
		"let^}", "let^1", "let^X=1", "let^this=1", "let^=1", "let x^", "let x^}", "let x^;", "let x^,y=1", "let x^==1", "let x^.f=1", "let x:^", "let x:^=1", "let x:int^", "let x:int^;", "let x:A^A=1", "let x=^", "let x=^}", "let x=^;", "let x=^let y=1", "let x=1^let", "let x=y^:int", "(^let x=1)", "print(^let x=1)", "if^let x=1{}", "1+^let x=1", "x=^let y=1")
}

// TestEntriesOfAll holds blocks wherever one may stand.
func TestEntriesOfAll(t *testing.T) {
	inside := []api.Node{letOf("x", "?", whole(1)), name("x")}
	s := "{let x=1;x;}"
	holdExpr(t, "while 1"+s, while(whole(1), block(inside...)))
	holdExpr(t, "if 1"+s+"else"+s, ifOf(whole(1), block(inside...), block(inside...)))
	holdTree(t, "class A{def m()"+s+"}main"+s, prog(class("A", "", method("m", "?", block(inside...))), block(inside...)))
}

// P13.1: what is set and put

func TestSets(t *testing.T) {
	x, y := name("x"), name("y")
	holdExpr(t, "x=1", set("x", whole(1)))
	holdExpr(t, "x=y=1", set("x", set("y", whole(1))))
	holdExpr(t, "x=1+2", set("x", bin("+", whole(1), whole(2))))
	holdExpr(t, "x=y||y", set("x", bin("||", y, y)))
	holdExpr(t, "(x)=1", set("x", whole(1)))
	holdExpr(t, "((x))=(((1)))", set("x", whole(1)))
	holdExpr(t, "(x=1)", set("x", whole(1)))
	holdExpr(t, "((x)=(y)=1)", set("x", set("y", whole(1))))
	holdExpr(t, "(x=1)+(y=2)", bin("+", set("x", whole(1)), set("y", whole(2))))
	holdExpr(t, "(x=1:int)", as("int", set("x", whole(1))))
	holdExpr(t, "(x=1).f", get("f", set("x", whole(1))))
	holdExpr(t, "(x=1).f=2", put("f", set("x", whole(1)), whole(2)))
	holdExpr(t, "x.f=1", put("f", x, whole(1)))
	holdExpr(t, "x.f=y.g=x=1", put("f", x, put("g", y, set("x", whole(1)))))
	holdExpr(t, "(x.f)=1", put("f", x, whole(1)))
	holdExpr(t, "((x).f)=1", put("f", x, whole(1)))
	holdExpr(t, "x.f.g=1", put("g", get("f", x), whole(1)))
	holdExpr(t, "x.f().g=1", put("g", call("f", x), whole(1)))
	holdExpr(t, "this.f=this", put("f", this(), this()))
	holdExpr(t, "1.f=1", put("f", whole(1), whole(1)))
	holdExpr(t, "().f=1", put("f", unit(), whole(1)))
	holdExpr(t, "(x+y).f=1", put("f", bin("+", x, y), whole(1)))
	holdExpr(t, "new A(x=1).f=x.f=1", put("f", newOf("A", set("x", whole(1))), put("f", x, whole(1))))
	holdExpr(t, "super.m().f=1", put("f", txt(api.KindSuper, "m"), whole(1)))
	holdExpr(t, "while x{}.f=1", put("f", while(x, block()), whole(1)))
	holdExpr(t, "if x{}else{}.f=x=1", put("f", ifOf(x, block(), block()), set("x", whole(1))))
}

// TestNotSet holds that nothing is set but a name and a field.
func TestNotSet(t *testing.T) {
	for s := range strings.FieldsSeq(`1 2r nan inf true false "x" () this -x !x - -x.f (-x) x+y x.f+x.f x||x.f x&&x x==x x<x x*x (x+y) x.f() x.f(1) x.f.g(x) (x.f()) (x:?) ((x):A) (x.f:A) (x=1) (x.f=1) super.m() read() print(x) real(x) int(x) len(x) new/**/A() `) {
		s = strings.ReplaceAll(s, "/**/", " ")
		if s == "-" {
			continue
		}
		holdBody(t, s+"^=1}", "("+s+"^=1)}", "x="+s+"^=1}", "x.f="+s+"^=1}", "let y="+s+"^=1}", "print("+s+"^=x)}", "x.f(1,"+s+"^=x)}", "if "+s+"^=1{}else{}}")
	}
	holdBody(t, "none A^=1}", "new A(1)^=1}", "if x{}else{}^=1}", "if x{x}else{x}^=1}", "while x{}^=1}", "while x{x}^=1}", "x=1^=1}", "x.f=1^=2}", "x=x.f=1^=2}", "x=^=1}", "x= ^=1}", "^=1}", "x.f=^", "x.f=^}", "x=^;", "(x)^(y)=1}", "--x^=1}", "!x.f^=1}", "1+x^=1}", "1*x.f^=1}", "-(x)^=1}")
}

// P13.1: operations

// operations are the signs of operations with two operands, those that bind least first.
func operations() [][]string {
	return [][]string{{"||"}, {"&&"}, {"==", "!="}, {"<", "<="}, {"+", "-"}, {"*", "/", "%"}}
}

// TestOperations holds each two operations beside one another, with an operand before each.
func TestOperations(t *testing.T) {
	a, b, c := name("a"), whole(1), this()
	for i, first := range operations() {
		for _, x := range first {
			holdExpr(t, "a"+x+"1", bin(x, a, b))
			holdExpr(t, "-a"+x+"!a", bin(x, un("-", a), un("!", a)))
			holdExpr(t, "-(a"+x+"1)", un("-", bin(x, a, b)))
			holdExpr(t, "a.f"+x+"a.f(1)", bin(x, get("f", a), call("f", a, b)))
			holdExpr(t, "(a"+x+"1).f", get("f", bin(x, a, b)))
			for k, second := range operations() {
				for _, y := range second {
					want := bin(y, bin(x, a, b), c)
					if k > i {
						want = bin(x, a, bin(y, b, c))
					}
					holdExpr(t, "a"+x+"1"+y+"this", want)
					holdExpr(t, "(a"+x+"1)"+y+"this", bin(y, bin(x, a, b), c))
					holdExpr(t, "a"+x+"(1"+y+"this)", bin(x, a, bin(y, b, c)))
				}
			}
		}
	}
}

// TestThree holds three operations beside one another, by which one stands above the others.
func TestThree(t *testing.T) {
	l := operations()
	level := func(n int, x int) (string, int) { return l[x][n%len(l[x])], x }
	for n := range 216 {
		x, i := level(n, n%6)
		y, j := level(n+1, n/6%6)
		z, k := level(n+2, n/36)
		a, b, c, d := name("a"), name("b"), name("c"), name("d")
		var want api.Node
		switch {
		case k <= i && k <= j:
			left := bin(y, bin(x, a, b), c)
			if j > i {
				left = bin(x, a, bin(y, b, c))
			}
			want = bin(z, left, d)
		case j <= i:
			want = bin(y, bin(x, a, b), bin(z, c, d))
		default:
			right := bin(y, b, bin(z, c, d))
			if k <= j {
				right = bin(z, bin(y, b, c), d)
			}
			if k <= i {
				want = bin(z, bin(x, a, bin(y, b, c)), d)
			} else {
				want = bin(x, a, right)
			}
		}
		holdMain(t, "a"+x+"b"+y+"c"+z+"d", want)
	}
}

func TestUnary(t *testing.T) {
	x := name("x")
	holdExpr(t, "-1", un("-", whole(1)))
	holdExpr(t, "!true", un("!", num(api.KindBool, 1)))
	holdExpr(t, "--!-x", un("-", un("-", un("!", un("-", x)))))
	holdExpr(t, "-x.f", un("-", get("f", x)))
	holdExpr(t, "(-x).f", get("f", un("-", x)))
	holdExpr(t, "-x.f(-x)", un("-", call("f", x, un("-", x))))
	holdExpr(t, "x--x", bin("-", x, un("-", x)))
	holdExpr(t, "x---x", bin("-", x, un("-", un("-", x))))
	holdExpr(t, "!x==x", bin("==", un("!", x), x))
	holdExpr(t, "x!=!x", bin("!=", x, un("!", x)))
	holdExpr(t, "-x*-x", bin("*", un("-", x), un("-", x)))
	holdBody(t, "-^", "-^}", "!^", "!^;", "-^+1}", "-^*1}", "-^=1}", "!^=x}", "-!^)", "-^let x=1}")
}

func TestNoOperand(t *testing.T) {
	for _, l := range operations() {
		for _, x := range l {
			if x != "-" {
				holdBody(t, "^"+x+"1}", "1+^"+x+"1}", "(^"+x+"1)}", "-^"+x+"1}", "x=^"+x+"1}", "x.f(^"+x)
			}
			holdBody(t, "1"+x+"^", "1"+x+"^}", "1"+x+"^;", "1"+x+"^)", "1"+x+"^=1", "1"+x+"^let x=1", "1"+x+"2^3")
		}
	}
	holdBody(t, "1^!2", "x^(1)", "x^x", "1^\"\"", "1^?", "^?", "x^,", "x^:int", "x^A", "x^{}", "x^if 1{}else{}")
}

// P13.1: prims

func TestPrims(t *testing.T) {
	for s, n := range map[string]api.Node{
		"0":                                   whole(0),
		"42":                                  whole(42),
		"9223372036854775807":                 whole(1<<63 - 1),
		"0r":                                  num(api.KindReal, 0),
		"7r":                                  num(api.KindReal, 7),
		"9007199254740992r":                   num(api.KindReal, 1<<53),
		"nan":                                 txt(api.KindReal, "nan"),
		"inf":                                 txt(api.KindReal, "inf"),
		"true":                                num(api.KindBool, 1),
		"false":                               num(api.KindBool, 0),
		`""`:                                  txt(api.KindStr, ""),
		`"a b"`:                               txt(api.KindStr, "a b"),
		`"\n\"\\"`:                            txt(api.KindStr, "\n\"\\"),
		"()":                                  unit(),
		"( )":                                 unit(),
		"(())":                                unit(),
		"(1)":                                 whole(1),
		"((((x))))":                           name("x"),
		"(x:A)":                               as("A", name("x")),
		"((x:A):?)":                           as("?", as("A", name("x"))),
		"((x):?)":                             as("?", name("x")),
		"(():unit)":                           as("unit", unit()),
		"(x+1:int)":                           as("int", bin("+", name("x"), whole(1))),
		"none A":                              typed(api.KindNone, "A"),
		"none Cat2.f":                         get("f", typed(api.KindNone, "Cat2")),
		"this":                                this(),
		"x":                                   name("x"),
		"nothing":                             name("nothing"),
		"super.m()":                           txt(api.KindSuper, "m"),
		"super.m(1,x)":                        txt(api.KindSuper, "m", whole(1), name("x")),
		"super.m(1).m(2)":                     call("m", txt(api.KindSuper, "m", whole(1)), whole(2)),
		"new A()":                             newOf("A"),
		"new A(1,(),x=1)":                     newOf("A", whole(1), unit(), set("x", whole(1))),
		"new A(1).f":                          get("f", newOf("A", whole(1))),
		"if x{}else{}":                        ifOf(name("x"), block(), block()),
		"if x=1{2;3}else{4}":                  ifOf(set("x", whole(1)), block(whole(2), whole(3)), block(whole(4))),
		"if(x){}else{}+1":                     bin("+", ifOf(name("x"), block(), block()), whole(1)),
		"-if x{}else{}":                       un("-", ifOf(name("x"), block(), block())),
		"while x{}":                           while(name("x"), block()),
		"while x<1{x=x+1;}":                   while(bin("<", name("x"), whole(1)), block(set("x", bin("+", name("x"), whole(1))))),
		"while while x{}{}":                   while(while(name("x"), block()), block()),
		"while x{}*2":                         bin("*", while(name("x"), block()), whole(2)),
		"read()":                              kid(api.KindRead),
		"read().f":                            get("f", kid(api.KindRead)),
		"print(1)":                            kid(api.KindPrint, whole(1)),
		"print(x=1)":                          kid(api.KindPrint, set("x", whole(1))),
		"print(())":                           kid(api.KindPrint, unit()),
		"print((x:?))":                        kid(api.KindPrint, as("?", name("x"))),
		"real(1)":                             txt(api.KindConv, "real", whole(1)),
		"int(1r)":                             txt(api.KindConv, "int", num(api.KindReal, 1)),
		"len(\"\")":                           txt(api.KindConv, "len", txt(api.KindStr, "")),
		"len(x).f(real(x))":                   call("f", txt(api.KindConv, "len", name("x")), txt(api.KindConv, "real", name("x"))),
		"int(real(len(x)))":                   txt(api.KindConv, "int", txt(api.KindConv, "real", txt(api.KindConv, "len", name("x")))),
		"(int(x):int)":                        as("int", txt(api.KindConv, "int", name("x"))),
		"x.f":                                 get("f", name("x")),
		"x.f.g.h":                             get("h", get("g", get("f", name("x")))),
		"x.f()":                               call("f", name("x")),
		"x.f(1)":                              call("f", name("x"), whole(1)),
		"x.f(1,2,3).g().h":                    get("h", call("g", call("f", name("x"), whole(1), whole(2), whole(3)))),
		"x.f(x.f(x.f()))":                     call("f", name("x"), call("f", name("x"), call("f", name("x")))),
		"(x.f).g":                             get("g", get("f", name("x"))),
		"1.f":                                 get("f", whole(1)),
		"1r.f()":                              call("f", num(api.KindReal, 1)),
		`"".f`:                                get("f", txt(api.KindStr, "")),
		"nan.nan1":                            get("nan1", txt(api.KindReal, "nan")),
		"true.f(false)":                       call("f", num(api.KindBool, 1), num(api.KindBool, 0)),
		"if x{}else{}.f().g":                  get("g", call("f", ifOf(name("x"), block(), block()))),
		"while x{}.f":                         get("f", while(name("x"), block())),
		"if if x{}else{}{}else{if x{}else{}}": ifOf(ifOf(name("x"), block(), block()), block(), block(ifOf(name("x"), block(), block()))),
	} {
		holdExpr(t, s, n)
	}
}

// TestTextsAreNoWords holds that a text is a text, whatever stands in it.
func TestTextsAreNoWords(t *testing.T) {
	all := words + " " + signs + " x C 1 2r name Class"
	for s := range strings.FieldsSeq(all) {
		holdExpr(t, `"`+s+`"`, txt(api.KindStr, s))
		holdForm(t, `main{1^"`+s+`"}`, `^"`+s+`"{}`, `class^"`+s+`"{}`, `main{let^"`+s+`"=1}`, `main{x.^"`+s+`"}`, `main{(x:^"`+s+`")}`)
	}
	for _, s := range []string{"a name", "a class", "an int", "a real", "a string", "a text", "the end", "", " ", "\n"} {
		holdExpr(t, strconv.Quote(s), txt(api.KindStr, s))
	}
}

func TestNotPrims(t *testing.T) {
	for x := range strings.FieldsSeq("class def var main let else bool str unit && || == != <= { : ; , . = < + * / % ?") {
		if x != "let" {
			holdBody(t, "^"+x, "1;^"+x, "while 1{^"+x)
		}
		holdBody(t, "(^"+x, "-^"+x, "1+^"+x, "x=^"+x, "x.f=^"+x, "x.f(^"+x, "x.f(1,^"+x, "print(^"+x, "real(^"+x, "if^"+x, "while^"+x, "let x=^"+x, "new A(^"+x, "super.m(^"+x)
	}
	holdBody(t, "^A", "^A()", "^A.f()", "(^", "(^}", "(^;", "(^,", "(1^", "(1^}", "(1^;", "(1^,2)", "(1^2)", "(1:^", "(1:^)", "(1:^1)", "(1:int^", "(1:int^:int)", "(1:int^}", "(^:int)", "()^()", "(1)^(2)", "(x)^x", "(x:A)^:A",
		"none^", "none^a", "none^int", "none^?", "none^(A)", "none^;", "none A^()", "none A^A", "none A^:A", "this^()", "this^x", "x^()", "x^1", "1^1", "1^x",
		"super^", "super^m()", "super^;", "super^()", "super^=1", "super.^", "super.^M()", "super.^new()", "super.^1", "super.m^", "super.m^}", "super.m^;", "super.m^.f", "super.m^=1", "super.m^+1", "super.m(^", "super.m(^,1)", "super.m(1^", "super.m(1,^", "super.m(1,^)", "super.m()^(1)", "super.m()^1",
		"new^", "new^a()", "new^int()", "new^?()", "new^(A)", "new^new A()", "new A^", "new A^}", "new A^;", "new A^.f", "new A^{}", "new A(^", "new A(^,1)", "new A(1^", "new A(1^;2)", "new A(1,^", "new A(1,^)", "new A(1^:int)", "new A()^()",
		"if^", "if^}", "if^{", "if^;", "if x^", "if x^}", "if x^;", "if x^else{}", "if x^1", "if x^then1", "if x{^", "if x{}^", "if x{}^}", "if x{}^;", "if x{}^.f", "if x{}^{}", "if x{}^if y{}", "if x{}else^", "if x{}else^;", "if x{}else^1", "if x{}else^if x{}else{}", "if x{}else{^", "if x{}else{}^", "if x{}else{}^else{}", "if x{}else{}^{}", "if x{}else{}^1", "if x{^;}", "if x{let^}",
		"while^", "while^}", "while^{", "while^;", "while x^", "while x^}", "while x^;", "while x^do", "while x{^", "while x{1^", "while x{}^", "while x{}^{}", "while x{}^else{}", "while x{}^1",
		"read^", "read^}", "read^;", "read^x", "read^.f", "read(^", "read(^1)", "read(^x", "read(^,", "read()^()", "read()^x",
		"print^", "print^}", "print^1", "print^;", "print^.f", "print(^", "print(^)", "print(^,", "print(1^", "print(1^,2)", "print(1^:int)", "print(1^;", "print(1)^(2)", "real^", "real^}", "real^.f", "real^1", "real(^", "real(^)", "real(1^,2)", "real(1^:real)", "real(x)^(x)", "int^", "int^x", "int(^)", "int(1^;", "len^", "len^\"\"", "len(^)", "len(\"\"^", "len(\"\"^,",
		"x.^", "x.^}", "x.^1", "x.^F", "x.^F()", "x.^if", "x.^len()", "x.^(1)", "x.^.f", "x.^\"f\"", "x.^=1", "x.f^", "x.f^1", "x.f^{}", "x.f(^", "x.f(^}", "x.f(^,", "x.f(1^", "x.f(1^}", "x.f(1^;", "x.f(1^2)", "x.f(1,^", "x.f(1,^)", "x.f(1,^,2)", "x.f(x^:int)", "x.f()^", "x.f()^()", "x.f(1)^(2)", "x.f()^x")
}

// P13.1: faults of the lexer

// TestLexerFirst holds that a fault of the lexer is told wherever it is, ahead of all others.
func TestLexerFirst(t *testing.T) {
	for s, f := range map[string]api.Fault{
		`"`: {Err: api.ErrForm}, `"a\q"`: {Err: api.ErrForm, At: 3}, "_": {Err: api.ErrForm}, "&": {Err: api.ErrForm}, "|1": {Err: api.ErrForm}, ">": {Err: api.ErrForm}, "12x": {Err: api.ErrForm, At: 2}, "07": {Err: api.ErrRange}, "9223372036854775808": {Err: api.ErrRange}, "9007199254740993r": {Err: api.ErrRange},
		strings.Repeat("a", 21): {Err: api.ErrLong}, strings.Repeat("A", 21): {Err: api.ErrLong}, `"` + strings.Repeat("a", 1001) + `"`: {Err: api.ErrLong}, "\x00": {Err: api.ErrForm}, "\xc3\xa9": {Err: api.ErrForm},
	} {
		deep := "main{" + strings.Repeat("-", 70) + "1} "
		for _, before := range []string{"", "main{", "main{1 ", "main{} ", "none ", "main{1=2} ", "} ; ) ", "class A{}", "class A{var ", deep, strings.Repeat("class A{} ", 41) + "main{} "} {
			holdFault(t, before+s, f.Err, len(before)+f.At)
			holdFault(t, before+s+" } main { none ", f.Err, len(before)+f.At)
		}
	}
}

// TestLongSources holds sources of as many bytes as there may be, and of more.
func TestLongSources(t *testing.T) {
	for _, blank := range []string{" ", "\n", "/"} {
		fill := strings.Repeat(blank, 20000-6)
		holdTree(t, "main{}"+fill, prog(block()))
		holdFault(t, "main{1"+fill, api.ErrForm, 20000)
		holdFault(t, "main{}"+fill+" ", api.ErrLong, 20000)
		holdFault(t, "main{}"+fill+"_", api.ErrLong, 20000)
		holdFault(t, "main{1"+fill+fill, api.ErrLong, 20000)
	}
	holdTree(t, strings.Repeat("\n", 19994)+"main{}", prog(block()))
	holdFault(t, strings.Repeat("\n", 19995)+"main{}", api.ErrLong, 20000)
	holdFault(t, strings.Repeat(" ", 20000), api.ErrForm, 20000)
	holdFault(t, "}"+strings.Repeat(" ", 20000), api.ErrLong, 20000)
}

// TestEnds holds that the end of a source that lacks something is behind its last blank.
func TestEnds(t *testing.T) {
	for _, s := range []string{"", "main", "main{", "main{1", "main{1;", "class A", "class A{}", "main{x.f(", "main{if x{}", "main{\"a\""} {
		for _, blank := range []string{"", " ", "\n\t\r ", "// c", " // c\n", "//\n//\n "} {
			holdFault(t, s+blank, api.ErrForm, len(s+blank))
			holdFault(t, blank+s, api.ErrForm, len(blank+s))
			if strings.HasSuffix(blank, "c") {
				holdFault(t, s+blank+"}", api.ErrForm, len(s+blank)+1)
			}
		}
	}
}

// P13.1: faults of trees

// holdMost holds that there may be so many parts and no more.
func holdMost(t *testing.T, most int, source func(n int) string) {
	t.Helper()
	for _, n := range []int{most - 1, most} {
		if x, f := parser.Parse([]byte(source(n))); f != (api.Fault{}) || tree.Check(x) != (api.Fault{}) {
			t.Errorf("%s: %v", short(source(n)), f)
		}
	}
	for _, n := range []int{most + 1, most + 2, most + most/2} {
		s := source(n) + " "
		if len(s) > 19990 {
			continue
		}
		holdFault(t, s, api.ErrMany, 0)
		// What is not a program at all is told first.
		holdFault(t, s+"1", api.ErrForm, len(s))
		holdFault(t, s+"\"", api.ErrForm, len(s))
	}
}

// list returns so many parts with a text between.
func list(part string, n int, between string) string {
	return strings.Join(slices.Repeat([]string{part}, n), between)
}

func TestMany(t *testing.T) {
	holdMost(t, 40, func(n int) string { return list("class A{}", n, "") + "main{}" })
	holdMost(t, 20, func(n int) string { return "class A{" + list("var x;", n, " ") + "}main{}" })
	holdMost(t, 20, func(n int) string { return "class A{" + list("def m(){}", n, " ") + "}main{}" })
	holdMost(t, 20, func(n int) string {
		return "class A{" + list("var x;", min(n, 20), "") + list("def m(){}", n, "") + "}main{}"
	})
	holdMost(t, 8, func(n int) string { return "class A{def m(" + list("a", n, ",") + "){}}main{}" })
	holdMost(t, 8, func(n int) string { return "main{x.f(" + list("1", n, ",") + ")}" })
	holdMost(t, 8, func(n int) string { return "main{super.f(" + list("1", n, ",") + ")}" })
	holdMost(t, 8, func(n int) string { return "main{new A(" + list("1", n, ",") + ")}" })
	holdMost(t, 4998, func(n int) string { return "main{" + list("1", n, ";") + "}" })
	holdMost(t, 2499, func(n int) string { return "main{" + list("-x", n, ";") + "}" })
	holdMost(t, 4974, func(n int) string {
		return "class A{" + list("var x;", 20, "") + "def m(a){}}main{" + list("x", n, ";") + "}"
	})
}

// holdDeepest holds that so many of them may be below one another, and no more.
func holdDeepest(t *testing.T, most int, source func(n int) string) {
	t.Helper()
	x, f := parser.Parse([]byte(source(most)))
	if f != (api.Fault{}) || tree.Depth(x) > 60 {
		t.Errorf("%s: %v, a depth of %d", short(source(most)), f, tree.Depth(x))
	}
	for _, n := range []int{most + 1, most + 2, 100, 1000} {
		holdFault(t, source(n), api.ErrDeep, 0)
		s := source(n)
		holdFault(t, s[:len(s)-1], api.ErrForm, len(s)-1)
	}
}

func TestDeep(t *testing.T) {
	nested := func(before, inside, after string) func(n int) string {
		return func(n int) string {
			return "main{" + strings.Repeat(before, n) + inside + strings.Repeat(after, n) + "}"
		}
	}
	holdDeepest(t, 57, nested("-", "1", ""))
	holdDeepest(t, 57, nested("", "x", ".f"))
	holdDeepest(t, 57, nested("", "x", ".f()"))
	holdDeepest(t, 57, nested("", "1", "+1"))
	holdDeepest(t, 57, nested("", "1", "&&2"))
	holdDeepest(t, 57, nested("1-(", "1", ")"))
	holdDeepest(t, 57, nested("x=", "1", ""))
	holdDeepest(t, 57, nested("x.f=", "1", ""))
	holdDeepest(t, 57, nested("(", "1", ":?)"))
	holdDeepest(t, 57, nested("print(", "1", ")"))
	holdDeepest(t, 57, nested("len(", "1", ")"))
	holdDeepest(t, 57, nested("x.f(", "1", ")"))
	holdDeepest(t, 57, nested("new A(", "1", ")"))
	holdDeepest(t, 28, nested("while 1{", "1", "}"))
	holdDeepest(t, 28, nested("if 1{}else{", "1", "}"))
	holdDeepest(t, 29, nested("if 1{", "", "}else{}"))
	holdDeepest(t, 57, nested("while ", "1", "{}"))
	// Too many nodes are told ahead of too deep ones.
	holdFault(t, "main{"+strings.Repeat("-", 5000)+"1}", api.ErrMany, 0)
	holdFault(t, "main{"+strings.Repeat("-", 4998)+"1}", api.ErrMany, 0)
	holdFault(t, "main{"+strings.Repeat("-", 4997)+"1}", api.ErrDeep, 0)
	holdFault(t, list("class A{}", 41, "")+"main{"+strings.Repeat("-", 100)+"1}", api.ErrDeep, 0)
}

// TestManyBrackets holds that brackets are no nodes: as many as a source has room for change nothing.
func TestManyBrackets(t *testing.T) {
	for _, n := range []int{58, 60, 61, 1000, 9996} {
		holdTree(t, "main{"+strings.Repeat("(", n)+"1"+strings.Repeat(")", n)+"}", prog(block(whole(1))))
		holdFault(t, "main{"+strings.Repeat("(", n)+"1"+strings.Repeat(")", n-1)+"}", api.ErrForm, 5+n+1+n-1)
	}
	holdTree(t, "main{"+strings.Repeat("(", 9995)+"x"+strings.Repeat(")", 9995)+"=1}", prog(block(set("x", whole(1)))))
	holdTree(t, "main{"+strings.Repeat("(", 9994)+"x.f"+strings.Repeat(")", 9994)+"=1}", prog(block(put("f", name("x"), whole(1)))))
	holdTree(t, "main{"+strings.Repeat("(", 9996)+strings.Repeat(")", 9996)+"}", prog(block(unit())))
}

// TestDeepForms holds sources that end, or are refused, below as many parts as a source has room for.
func TestDeepForms(t *testing.T) {
	for s := range strings.FieldsSeq("( - ! -( !(-( x= x.f= x= x.f( print( len( 1+( 1|| x.f(1, x=(( while/1{ if/1{ if/ if/1{}else{ while/ new/A( super.m( let/x=1;while/1{ x. x.f. ((( (1)+") {
		s = strings.ReplaceAll(s, "/", " ")
		all := "main{" + strings.Repeat(s, (20000-6)/len(s))
		holdFault(t, all, api.ErrForm, len(all))
		if strings.HasSuffix(s, "{") {
			holdFault(t, all+"}", api.ErrForm, len(all)+1)
			continue
		}
		holdFault(t, all+"}", api.ErrForm, len(all))
	}
}

// DOC.md, rule 4

// TestSourceStays holds that a source is neither changed nor kept, nor what stands behind it read.
func TestSourceStays(t *testing.T) {
	for _, s := range []string{"", "main{}", "main{x", "main{x=1}", `main{"text"}`, "class Abc{var abc:Abc;def m(a:int):Abc{this}}main{new Abc().abc}", "main{} 1", "main{-x+12}", "main{let abc:int=real(1r)}", "none"} {
		for _, behind := range []string{"}", ";", "1", "main{}", " ", "\"", "class"} {
			all := []byte(s + behind + strings.Repeat(behind, 8))
			b := all[:len(s)]
			before := bytes.Clone(all)
			n, f := parser.Parse(b)
			if !bytes.Equal(all, before) {
				t.Errorf("%s was changed", short(s))
			}
			alone, g := parser.Parse([]byte(s))
			for i := range all {
				all[i] = 'z'
			}
			if !equal(n, alone) || f != g {
				t.Errorf("%s with %s behind it: %s %v, and not %s %v", short(s), short(behind), show(n), f, show(alone), g)
			}
		}
	}
}

// spoil changes all nodes of a tree, and what its lists have room for.
func spoil(n *api.Node) {
	kids := n.Kids[:cap(n.Kids)]
	for i := range n.Kids {
		spoil(&kids[i])
	}
	for i := range kids {
		kids[i] = api.Node{Kind: -1, Text: "spoilt", Type: "spoilt", N: -1}
	}
	*n = api.Node{Kind: -2}
}

// TestTreesAreNew holds that a tree shares nothing with another one, and no two of its lists anything, not even what they have room for.
func TestTreesAreNew(t *testing.T) {
	made(300, func(m maker, c *chart, l []string) {
		b := []byte(m.join(l))
		n, f := parser.Parse(b)
		want, _ := c.parse(t, string(b))
		other, _ := parser.Parse(b)
		for _, x := range preorder(n) {
			for i := range x.Kids[len(x.Kids):cap(x.Kids)] {
				x.Kids[len(x.Kids):cap(x.Kids)][i] = api.Node{Kind: -1, Text: "spoilt"}
			}
		}
		if !equal(n, want) {
			t.Fatalf("%s: its lists share what they have room for: %s", short(string(b)), show(n))
		}
		spoil(&n)
		again, g := parser.Parse(b)
		if !equal(other, want) || !equal(again, want) || f != g {
			t.Fatalf("%s: %s, and then %s %v, and not %s", short(string(b)), show(other), show(again), g, show(want))
		}
	})
}

// TestAtOnce holds that calls at the same time do not disturb one another.
func TestAtOnce(t *testing.T) {
	good, bad := []byte("class A{def m(a){a.m(1+2*3)}}main{x=(y:int)}"), []byte("class A{def m(a){a.m(1+2*)}}main{}")
	want, _ := parser.Parse(good)
	done := make(chan bool)
	for range 8 {
		go func() {
			ok := true
			for range 500 {
				n, f := parser.Parse(good)
				_, g := parser.Parse(bad)
				ok = ok && equal(n, want) && f == api.Fault{} && g == api.Fault{Err: api.ErrForm, At: 25}
			}
			done <- ok
		}()
	}
	for range 8 {
		if !<-done {
			t.Error("not the same")
		}
	}
}
