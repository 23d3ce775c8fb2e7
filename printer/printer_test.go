package printer_test

import (
	"slices"
	"strconv"
	"strings"
	"testing"

	"chaperon/api"
	"chaperon/lexer"
	"chaperon/printer"
)

// kid is a node of a kind without anything but kids.
func kid(kind int, kids ...api.Node) api.Node { return api.Node{Kind: kind, Kids: kids} }

// txt is a node of a kind with a Text.
func txt(kind int, text string, kids ...api.Node) api.Node {
	return api.Node{Kind: kind, Text: text, Kids: kids}
}

// typed is a node of a kind with a Type.
func typed(kind int, typ string, kids ...api.Node) api.Node {
	return api.Node{Kind: kind, Type: typ, Kids: kids}
}

// both is a node of a kind with a Text and a Type.
func both(kind int, text, typ string, kids ...api.Node) api.Node {
	return api.Node{Kind: kind, Text: text, Type: typ, Kids: kids}
}

// num is a node of a kind with an N.
func num(kind, n int) api.Node { return api.Node{Kind: kind, N: n} }

func whole(n int) api.Node                       { return num(api.KindInt, n) }
func str(s string) api.Node                      { return txt(api.KindStr, s) }
func unit() api.Node                             { return kid(api.KindUnit) }
func this() api.Node                             { return kid(api.KindThis) }
func name(s string) api.Node                     { return txt(api.KindVar, s) }
func set(s string, x api.Node) api.Node          { return txt(api.KindSet, s, x) }
func get(s string, x api.Node) api.Node          { return txt(api.KindGet, s, x) }
func put(s string, x, y api.Node) api.Node       { return txt(api.KindPut, s, x, y) }
func call(s string, kids ...api.Node) api.Node   { return txt(api.KindCall, s, kids...) }
func un(s string, x api.Node) api.Node           { return txt(api.KindUn, s, x) }
func bin(s string, x, y api.Node) api.Node       { return txt(api.KindBin, s, x, y) }
func as(s string, x api.Node) api.Node           { return typed(api.KindAs, s, x) }
func conv(s string, x api.Node) api.Node         { return txt(api.KindConv, s, x) }
func printOf(x api.Node) api.Node                { return kid(api.KindPrint, x) }
func superOf(s string, l ...api.Node) api.Node   { return txt(api.KindSuper, s, l...) }
func newOf(s string, l ...api.Node) api.Node     { return typed(api.KindNew, s, l...) }
func letOf(s, typ string, x api.Node) api.Node   { return both(api.KindLet, s, typ, x) }
func block(kids ...api.Node) api.Node            { return kid(api.KindBlock, kids...) }
func ifOf(x, y, z api.Node) api.Node             { return kid(api.KindIf, x, y, z) }
func while(x, y api.Node) api.Node               { return kid(api.KindWhile, x, y) }
func prog(kids ...api.Node) api.Node             { return kid(api.KindProg, kids...) }
func class(s, of string, l ...api.Node) api.Node { return both(api.KindClass, s, of, l...) }
func field(s, typ string) api.Node               { return both(api.KindField, s, typ) }
func param(s, typ string) api.Node               { return both(api.KindParam, s, typ) }

// method is a method with these parameters and, at last, its block.
func method(s, typ string, kids ...api.Node) api.Node {
	return both(api.KindMethod, s, typ, kids...)
}

// equal is a second reading of what makes two trees equal.
func equal(a, b api.Node) bool {
	return a.Kind == b.Kind && a.Text == b.Text && a.Type == b.Type && a.From == b.From && a.N == b.N && slices.EqualFunc(a.Kids, b.Kids, equal)
}

// preorder returns the nodes of a tree, each before its kids.
func preorder(n api.Node) []*api.Node {
	var l []*api.Node
	var visit func(n *api.Node)
	visit = func(n *api.Node) {
		l = append(l, n)
		for i := range n.Kids {
			visit(&n.Kids[i])
		}
	}
	visit(&n)
	return l
}

// short cuts a long text off, so that it can be told.
func short(s string) string {
	if len(s) > 300 {
		return strconv.Quote(s[:300]) + ".. (" + strconv.Itoa(len(s)) + " bytes)"
	}
	return strconv.Quote(s)
}

// show writes a tree, cut off if it is long.
func show(n api.Node) string {
	var all strings.Builder
	var write func(n api.Node)
	write = func(n api.Node) {
		if all.Len() > 1000 {
			return
		}
		all.WriteString(strconv.Itoa(n.Kind))
		for _, s := range []string{n.Text, n.Type, n.From} {
			if s != "" {
				all.WriteString(" " + strconv.Quote(s[:min(len(s), 30)]))
			}
		}
		if n.N != 0 {
			all.WriteString(" " + strconv.Itoa(n.N))
		}
		if len(n.Kids) > 0 {
			all.WriteString("[")
			for i, k := range n.Kids {
				if i > 0 {
					all.WriteString(", ")
				}
				write(k)
			}
			all.WriteString("]")
		}
	}
	write(n)
	return all.String()
}

// holdText holds what is printed of a tree; its tokens are those of the text, but at 0.
func holdText(t *testing.T, n api.Node, want string) {
	t.Helper()
	if s, f := printer.Print(n); f != (api.Fault{}) || s != want {
		t.Errorf("%s: %s %v, and not %s", show(n), short(s), f, short(want))
	}
	holdTokens(t, n, want)
}

// holdTokens holds the tokens of a tree: those of a text, but at 0.
func holdTokens(t *testing.T, n api.Node, text string) {
	t.Helper()
	tokens, g := lexer.Lex([]byte(text))
	for i := range tokens {
		tokens[i].At = 0
	}
	if l, f := printer.Tokens(n); f != (api.Fault{}) || g != (api.Fault{}) || !slices.Equal(l, tokens) {
		t.Errorf("%s: %v %v, and not %v %v", show(n), l, f, tokens, g)
	}
}

// holdMain holds what is printed of main's block with these entries, and of a method's.
func holdMain(t *testing.T, want string, l ...api.Node) {
	t.Helper()
	holdText(t, prog(block(l...)), "main { "+want+" }")
	holdText(t, prog(class("A", "", method("m", "?", block(l...))), block()), "class A { def m ( ) { "+want+" } } main { }")
}

// holdExpr holds what is printed of an expression, wherever one stands that needs no brackets there.
func holdExpr(t *testing.T, want string, x api.Node) {
	t.Helper()
	holdMain(t, want, x)
	holdMain(t, want+" ; "+want, x, x)
	holdMain(t, "let y : C = "+want+" ; z = "+want+" ; z . f = "+want, letOf("y", "C", x), set("z", x), put("f", name("z"), x))
	holdMain(t, "z . f ( "+want+" , "+want+" ) ; super . f ( "+want+" ) ; new C ( 1 , "+want+" )", call("f", name("z"), x, x), superOf("f", x), newOf("C", whole(1), x))
	holdMain(t, "if "+want+" { "+want+" } else { "+want+" } ; while "+want+" { "+want+" }", ifOf(x, block(x), block(x)), while(x, block(x)))
	holdMain(t, "print ( "+want+" ) ; ( "+want+" : real ) ; len ( "+want+" )", printOf(x), as("real", x), conv("len", x))
}

// holdFault holds the fault of a tree, and that nothing else is returned.
func holdFault(t *testing.T, n api.Node, err api.Errno, at int) {
	t.Helper()
	if s, f := printer.Print(n); f != (api.Fault{Err: err, At: at}) || s != "" {
		t.Errorf("%s: %s %v, and not error %d at %d", show(n), short(s), f, err, at)
	}
}

// holdWrong holds the fault of a tree that is not valid.
func holdWrong(t *testing.T, n api.Node, err api.Errno, at int) {
	t.Helper()
	holdFault(t, n, err, at)
	if l, f := printer.Tokens(n); f != (api.Fault{Err: err, At: at}) || l != nil {
		t.Errorf("%d tokens, %v, and not error %d at %d", len(l), f, err, at)
	}
}

// The chapter's examples

func TestExamples(t *testing.T) {
	one, two, three := whole(1), whole(2), whole(3)
	holdText(t, prog(block()), "main { }")
	holdText(t, prog(block(bin("*", bin("+", one, two), three), unit())), "main { ( 1 + 2 ) * 3 ; ( ) }")
	holdText(t, prog(block(bin("-", one, bin("-", two, three)))), "main { 1 - ( 2 - 3 ) }")
	holdText(t, prog(block(bin("-", bin("-", one, two), three))), "main { 1 - 2 - 3 }")
	holdText(t, prog(block(put("b", name("a"), as("?", name("c"))))), "main { a . b = ( c : ? ) }")
	holdText(t, prog(block(letOf("x", "?", set("y", set("z", un("-", un("-", one))))))), "main { let x = y = z = - - 1 }")
	holdWrong(t, block(), api.ErrForm, 0)
	if l := []int{printer.Level(set("x", unit())), printer.Level(un("!", unit())), printer.Level(unit())}; !slices.Equal(l, []int{0, 7, 8}) {
		t.Error(l)
	}
}

// TestNumbersOfErrors holds the numbers of errors themselves.
func TestNumbersOfErrors(t *testing.T) {
	if e := []api.Errno{api.OK, api.ErrRange, api.ErrLong, api.ErrForm, api.ErrName, api.ErrType, api.ErrDeep, api.ErrMany}; !slices.Equal(e, []api.Errno{0, 3, 4, 5, 6, 7, 11, 12}) {
		t.Error(e)
	}
}

// P14.1: levels

func TestLevels(t *testing.T) {
	one := whole(1)
	for want, l := range map[int][]api.Node{
		0: {set("x", one), put("f", one, one), {Kind: api.KindSet}, {Kind: api.KindPut, Text: "||"}},
		1: {bin("||", one, one)},
		2: {bin("&&", one, one)},
		3: {bin("==", one, one), bin("!=", one, one)},
		4: {bin("<", one, one), bin("<=", one, one)},
		5: {bin("+", one, one), bin("-", one, one)},
		6: {bin("*", one, one), bin("/", one, one), bin("%", one, one), bin("", one, one), bin("!", one, one), bin("=", one, one), bin(">", one, one), bin("a", one, one), bin("+ ", one, one), bin("|", one, one), {Kind: api.KindBin}},
		7: {un("-", one), un("!", one), un("+", one), {Kind: api.KindUn}, {Kind: api.KindUn, Text: "||"}},
		8: {one, num(api.KindReal, 1), num(api.KindBool, 0), str("||"), unit(), typed(api.KindNone, "A"), this(), name("x"), get("f", one), call("f", one), superOf("f"), newOf("A"), ifOf(one, block(), block()), while(one, block()), kid(api.KindRead), printOf(one), as("?", one), conv("len", one),
			prog(block()), class("A", ""), field("x", "?"), method("m", "?", block()), param("x", "?"), block(), letOf("x", "?", one), {}, {Text: "||"}, {Kind: -1}, {Kind: -16}, {Kind: 35}, {Kind: 1 << 40}, {Kind: api.KindCast}, {Kind: api.KindDynGet}, {Kind: api.KindDynPut}, {Kind: api.KindDynCall}, {Kind: api.KindDynBin, Text: "||"}},
	} {
		for _, n := range l {
			if got := printer.Level(n); got != want {
				t.Errorf("%s: %d, and not %d", show(n), got, want)
			}
		}
	}
}

// P14.2: programs

func TestPrograms(t *testing.T) {
	holdText(t, prog(class("A", ""), block()), "class A { } main { }")
	holdText(t, prog(class("A", ""), class("B", "A"), class("A", "C"), block(whole(1))), "class A { } class B : A { } class A : C { } main { 1 }")
	holdText(t, prog(class("A", "", field("a", "?"), field("b", "int"), field("c", "A")), block()), "class A { var a ; var b : int ; var c : A ; } main { }")
	holdText(t, prog(class("A", "", method("a", "?", block()), method("b", "unit", block(unit(), this()))), block()), "class A { def a ( ) { } def b ( ) : unit { ( ) ; this } } main { }")
	holdText(t, prog(class("A", "B", field("x", "?"), method("f", "A", param("a", "int"), param("b", "?"), param("c", "A"), block(this()))), block()), "class A : B { var x ; def f ( a : int , b , c : A ) : A { this } } main { }")
	holdText(t, prog(class("A", "", method("m", "?", param("a", "?"), block(letOf("a", "?", name("a"))))), block(letOf("b", "str", str("")))), "class A { def m ( a ) { let a = a } } main { let b : str = \"\" }")
}

// TestTypes holds each type wherever one may stand.
func TestTypes(t *testing.T) {
	for _, s := range []string{"?", "int", "real", "bool", "str", "unit", "A", "Int", "Cat2", strings.Repeat("Z", 20)} {
		in := " : " + s
		if s == "?" {
			in = ""
		}
		holdText(t, prog(class("A", "", field("x", s), method("m", s, param("a", s), param("b", s), block())), block()), "class A { var x"+in+" ; def m ( a"+in+" , b"+in+" )"+in+" { } } main { }")
		holdMain(t, "let x"+in+" = 1", letOf("x", s, whole(1)))
		holdExpr(t, "( x : "+s+" )", as(s, name("x")))
	}
	for _, s := range []string{"A", "Int", "Cat2", strings.Repeat("Z", 20)} {
		holdText(t, prog(class(s, s), block()), "class "+s+" : "+s+" { } main { }")
		holdExpr(t, "none "+s, typed(api.KindNone, s))
		holdExpr(t, "new "+s+" ( )", newOf(s))
	}
}

func TestBlocks(t *testing.T) {
	one := whole(1)
	holdText(t, prog(class("A", "", method("m", "?", block())), block()), "class A { def m ( ) { } } main { }")
	holdMain(t, "1", one)
	holdMain(t, "1 ; 1 ; 1", one, one, one)
	holdMain(t, "let x = 1", letOf("x", "?", one))
	holdMain(t, "let x : int = 1 ; let y = x ; y", letOf("x", "int", one), letOf("y", "?", name("x")), name("y"))
	holdMain(t, "let x = x = 1 ; x = 1 ; x . f = 1", letOf("x", "?", set("x", one)), set("x", one), put("f", name("x"), one))
	holdExpr(t, "while 1 { }", while(one, block()))
	holdExpr(t, "if 1 { } else { }", ifOf(one, block(), block()))
	holdExpr(t, "if 1 { let x = 1 ; x } else { 1 ; let y = 1 }", ifOf(one, block(letOf("x", "?", one), name("x")), block(one, letOf("y", "?", one))))
}

// P14.2: expressions

func TestExpressions(t *testing.T) {
	x, one := name("x"), whole(1)
	for want, n := range map[string]api.Node{
		"0":                                     whole(0),
		"42":                                    whole(42),
		"9223372036854775807":                   whole(1<<63 - 1),
		"0r":                                    num(api.KindReal, 0),
		"7r":                                    num(api.KindReal, 7),
		"9007199254740992r":                     num(api.KindReal, 1<<53),
		"nan":                                   txt(api.KindReal, "nan"),
		"inf":                                   txt(api.KindReal, "inf"),
		"true":                                  num(api.KindBool, 1),
		"false":                                 num(api.KindBool, 0),
		`""`:                                    str(""),
		`"a b"`:                                 str("a b"),
		`"\n\"\\n"`:                             str("\n\"\\n"),
		`"if"`:                                  str("if"),
		`"+ 1 ) // }"`:                          str("+ 1 ) // }"),
		"( )":                                   unit(),
		"this":                                  this(),
		"x":                                     x,
		"nothing":                               name("nothing"),
		"x = 1":                                 set("x", one),
		"x . f = 1":                             put("f", x, one),
		"x = y = x . f = 1":                     set("x", set("y", put("f", x, one))),
		"x . f":                                 get("f", x),
		"x . f . g . h":                         get("h", get("g", get("f", x))),
		"x . f ( )":                             call("f", x),
		"x . f ( 1 )":                           call("f", x, one),
		"x . f ( 1 , x , this ) . g ( ) . h":    get("h", call("g", call("f", x, one, x, this()))),
		"x . f ( x . f ( x . f ( ) ) )":         call("f", x, call("f", x, call("f", x))),
		"super . m ( )":                         superOf("m"),
		"super . m ( 1 , x )":                   superOf("m", one, x),
		"super . m ( 1 ) . m ( x ) . m":         get("m", call("m", superOf("m", one), x)),
		"new A ( 1 , ( ) , x = 1 )":             newOf("A", one, unit(), set("x", one)),
		"new A ( ) . f . g = 1":                 put("g", get("f", newOf("A")), one),
		"none A . f":                            get("f", typed(api.KindNone, "A")),
		"read ( )":                              kid(api.KindRead),
		"read ( ) . f":                          get("f", kid(api.KindRead)),
		"print ( 1 )":                           printOf(one),
		"print ( ( ) )":                         printOf(unit()),
		"print ( ( x : ? ) )":                   printOf(as("?", x)),
		"real ( 1 )":                            conv("real", one),
		"int ( 1r )":                            conv("int", num(api.KindReal, 1)),
		`len ( "" )`:                            conv("len", str("")),
		"int ( real ( len ( x ) ) ) . f":        get("f", conv("int", conv("real", conv("len", x)))),
		"( ( x : A ) : ? )":                     as("?", as("A", x)),
		"( x = 1 : int ) . f":                   get("f", as("int", set("x", one))),
		"( 1 + 1 : int ) + 1":                   bin("+", as("int", bin("+", one, one)), one),
		"- 1":                                   un("-", one),
		"! - - ! x":                             un("!", un("-", un("-", un("!", x)))),
		"- x . f":                               un("-", get("f", x)),
		"( - x ) . f":                           get("f", un("-", x)),
		"( - x ) . f ( - x )":                   call("f", un("-", x), un("-", x)),
		"( - x ) . f = - x":                     put("f", un("-", x), un("-", x)),
		"- ( x + 1 ) + - x":                     bin("+", un("-", bin("+", x, one)), un("-", x)),
		"- x - - x":                             bin("-", un("-", x), un("-", x)),
		"( x = 1 ) . f":                         get("f", set("x", one)),
		"( x . f = 1 ) . f = x . f = 1":         put("f", put("f", x, one), put("f", x, one)),
		"- ( x = 1 )":                           un("-", set("x", one)),
		"( x = 1 ) + ( x = 1 )":                 bin("+", set("x", one), set("x", one)),
		"( x . f = 1 ) || ( x . f = 1 )":        bin("||", put("f", x, one), put("f", x, one)),
		"x = 1 || x":                            set("x", bin("||", one, x)),
		"x . f = 1 || x":                        put("f", x, bin("||", one, x)),
		"( x || 1 ) . f":                        get("f", bin("||", x, one)),
		"( x * 1 ) . f ( x * 1 )":               call("f", bin("*", x, one), bin("*", x, one)),
		"if x { } else { } . f":                 get("f", ifOf(x, block(), block())),
		"while x { } . f ( )":                   call("f", while(x, block())),
		"while x { } . f = 1":                   put("f", while(x, block()), one),
		"- if x { } else { } + while x { } * 1": bin("+", un("-", ifOf(x, block(), block())), bin("*", while(x, block()), one)),
		"while while x { } { while x { } }":     while(while(x, block()), block(while(x, block()))),
		"if if x { } else { } { } else { }":     ifOf(ifOf(x, block(), block()), block(), block()),
		"if x = 1 { x = 1 } else { x . f = 1 }": ifOf(set("x", one), block(set("x", one)), block(put("f", x, one))),
		"while x < 1 { x = x + 1 ; print ( x ) }": while(bin("<", x, one), block(set("x", bin("+", x, one)), printOf(x))),
		strings.Repeat("z", 20):                   name(strings.Repeat("z", 20)),
	} {
		holdExpr(t, want, n)
	}
}

// TestBrackets holds where expressions of each level have brackets.
func TestBrackets(t *testing.T) {
	x, y := name("x"), name("y")
	l := []struct {
		text string
		node api.Node
	}{
		{"x = y", set("x", y)}, {"x . f = y", put("f", x, y)}, {"x || y", bin("||", x, y)}, {"x && y", bin("&&", x, y)}, {"x == y", bin("==", x, y)}, {"x != y", bin("!=", x, y)}, {"x < y", bin("<", x, y)}, {"x <= y", bin("<=", x, y)}, {"x + y", bin("+", x, y)}, {"x - y", bin("-", x, y)}, {"x * y", bin("*", x, y)}, {"x / y", bin("/", x, y)}, {"x % y", bin("%", x, y)}, {"- x", un("-", x)}, {"! x", un("!", x)}, {"x . f", get("f", x)}, {"( )", unit()},
	}
	levels := []int{0, 0, 1, 2, 3, 3, 4, 4, 5, 5, 6, 6, 6, 7, 7, 8, 8}
	for i, e := range l {
		at := func(least int) string {
			if levels[i] < least {
				return "( " + e.text + " )"
			}
			return e.text
		}
		holdExpr(t, e.text, e.node)
		holdExpr(t, at(8)+" . g", get("g", e.node))
		holdExpr(t, at(8)+" . g ( "+e.text+" )", call("g", e.node, e.node))
		holdExpr(t, at(8)+" . g = "+e.text, put("g", e.node, e.node))
		holdExpr(t, "- "+at(7), un("-", e.node))
		holdExpr(t, "! "+at(7), un("!", e.node))
		for k, s := range strings.Fields("|| && == != < <= + - * / %") {
			own := levels[k+2]
			holdExpr(t, at(own)+" "+s+" "+at(own+1), bin(s, e.node, e.node))
		}
	}
}

// P14.2: faults of tree.Check

func TestNoTrees(t *testing.T) {
	one := whole(1)
	holdWrong(t, api.Node{}, api.ErrForm, 0)
	holdWrong(t, prog(), api.ErrForm, 0)
	holdWrong(t, one, api.ErrForm, 0)
	holdWrong(t, set("x", one), api.ErrForm, 0)
	holdWrong(t, class("A", ""), api.ErrForm, 0)
	holdWrong(t, prog(block(), block()), api.ErrForm, 0)
	holdWrong(t, prog(block(), class("A", "")), api.ErrForm, 0)
	holdWrong(t, prog(block(api.Node{})), api.ErrForm, 1)
	holdWrong(t, prog(block(one, kid(api.KindCast, one))), api.ErrForm, 1)
	holdWrong(t, prog(block(one, txt(api.KindDynBin, "+", one, one))), api.ErrForm, 1)
	holdWrong(t, prog(block(one, bin("", one, one))), api.ErrForm, 3)
	holdWrong(t, prog(block(one, un("+", one))), api.ErrForm, 3)
	holdWrong(t, prog(block(one, get("f", letOf("x", "?", one)))), api.ErrForm, 3)
	holdWrong(t, prog(block(call("f"))), api.ErrForm, 2)
	holdWrong(t, prog(block(put("f", one, one), txt(api.KindPut, "f", one))), api.ErrForm, 5)
	holdWrong(t, prog(block(kid(api.KindIf, one, block()))), api.ErrForm, 2)
	holdWrong(t, prog(block(txt(api.KindInt, "1"))), api.ErrForm, 2)
	holdWrong(t, prog(block(both(api.KindVar, "x", "?"))), api.ErrForm, 2)
	holdWrong(t, prog(block(str("a\tb"))), api.ErrForm, 2)
	holdWrong(t, prog(block(api.Node{Kind: api.KindReal, Text: "nan", N: 1})), api.ErrForm, 2)
	holdWrong(t, prog(block(api.Node{Kind: api.KindUnit, From: "?"})), api.ErrForm, 2)
	holdWrong(t, prog(block(name("if"))), api.ErrName, 2)
	holdWrong(t, prog(block(name("X"))), api.ErrName, 2)
	holdWrong(t, prog(block(name(strings.Repeat("a", 21)))), api.ErrName, 2)
	holdWrong(t, prog(block(one, typed(api.KindNone, "int"))), api.ErrName, 3)
	holdWrong(t, prog(class("A", "?"), block()), api.ErrName, 1)
	holdWrong(t, prog(class("a", ""), block()), api.ErrName, 1)
	holdWrong(t, prog(class("A", "", field("x", "")), block()), api.ErrType, 2)
	holdWrong(t, prog(class("A", "", method("m", "x", block())), block()), api.ErrType, 2)
	holdWrong(t, prog(block(letOf("x", "", one))), api.ErrType, 2)
	holdWrong(t, prog(block(as("len", one))), api.ErrType, 2)
	holdWrong(t, prog(block(whole(-1))), api.ErrRange, 2)
	holdWrong(t, prog(block(num(api.KindReal, 1<<53+1))), api.ErrRange, 2)
	holdWrong(t, prog(block(num(api.KindBool, 2))), api.ErrRange, 2)
	holdWrong(t, prog(block(str(strings.Repeat("a", 1001)))), api.ErrLong, 2)
	holdWrong(t, prog(block(superOf("m", slices.Repeat([]api.Node{one}, 9)...))), api.ErrMany, 2)
	// The first node that is not well-formed is told.
	holdWrong(t, prog(class("A", "", field("x", "!")), block(name("X"))), api.ErrType, 2)
}

// nested returns a program with an expression below so many others, each made of the one below it.
func nested(n int, x api.Node, above func(api.Node) api.Node) api.Node {
	for range n {
		x = above(x)
	}
	return prog(block(x))
}

// TestSizes holds trees that are as large and as deep as they may be, and others.
func TestSizes(t *testing.T) {
	one := whole(1)
	holdText(t, prog(block(slices.Repeat([]api.Node{one}, 4998)...)), "main { 1"+strings.Repeat(" ; 1", 4997)+" }")
	holdWrong(t, prog(block(slices.Repeat([]api.Node{one}, 4999)...)), api.ErrMany, 0)
	holdText(t, nested(57, one, func(x api.Node) api.Node { return un("-", x) }), "main { "+strings.Repeat("- ", 57)+"1 }")
	holdWrong(t, nested(58, one, func(x api.Node) api.Node { return un("-", x) }), api.ErrDeep, 60)
	holdText(t, nested(57, one, func(x api.Node) api.Node { return bin("-", one, x) }), "main { "+strings.Repeat("1 - ( ", 56)+"1 - 1"+strings.Repeat(" )", 56)+" }")
	holdText(t, nested(57, one, func(x api.Node) api.Node { return bin("-", x, one) }), "main { 1"+strings.Repeat(" - 1", 57)+" }")
	holdText(t, nested(28, one, func(x api.Node) api.Node { return get("f", un("-", x)) }), "main { "+strings.Repeat("( - ", 28)+"1"+strings.Repeat(" ) . f", 28)+" }")
	var classes []api.Node
	for range 40 {
		classes = append(classes, class("A", "", field("x", "?")))
	}
	holdText(t, prog(append(slices.Clone(classes), block())...), strings.Repeat("class A { var x ; } ", 40)+"main { }")
	holdWrong(t, prog(append(append(classes, classes[0]), block())...), api.ErrMany, 0)
	holdWrong(t, nested(4998, one, func(x api.Node) api.Node { return un("-", x) }), api.ErrMany, 0)
	holdWrong(t, nested(4997, one, func(x api.Node) api.Node { return un("-", x) }), api.ErrDeep, 60)
}

// P14.2: texts that are too long

// texts returns as many texts as it takes for a source of so many bytes, from 2,000 on, of these letters.
func texts(bytes int, letters string) []api.Node {
	var l []api.Node
	left := bytes - len("main { ") - len(" }")
	for left > 1000 {
		l = append(l, str(strings.Repeat(letters, 400/len(letters))))
		left -= len(quoted(l[0].Text)) + len(" ; ")
	}
	return append(l, str(strings.Repeat("a", left-len(`""`))))
}

// holdLong holds that a tree is printed if its text has not more than 20,000 bytes; its tokens are told anyway.
func holdLong(t *testing.T, n api.Node, bytes int) {
	t.Helper()
	all := newWriter(nil).node(n)
	want := source(all)
	if len(want) != bytes {
		t.Fatalf("%d bytes, and not %d", len(want), bytes)
	}
	if l, f := printer.Tokens(n); f != (api.Fault{}) || len(l) != len(all) {
		t.Errorf("%d tokens, %v, and not %d", len(l), f, len(all))
	}
	if bytes > 20000 {
		holdFault(t, n, api.ErrLong, 0)
		return
	}
	if s, f := printer.Print(n); f != (api.Fault{}) || s != want {
		t.Errorf("%s %v, and not %s", short(s), f, short(want))
	}
}

func TestLong(t *testing.T) {
	for _, bytes := range []int{2000, 19998, 19999, 20000, 20001, 20002, 20003, 30000, 100000} {
		for _, letters := range []string{"a", "\n", "\"", "\\n", "~ "} {
			holdLong(t, prog(block(texts(bytes, letters)...)), bytes)
		}
		// What is too long may be a bracket, a number, a name, a type.
		holdLong(t, prog(block(append(texts(bytes-6, "a"), unit())...)), bytes)
		holdLong(t, prog(block(append(texts(bytes-5, "a"), num(api.KindReal, 1))...)), bytes)
		holdLong(t, prog(block(append(texts(bytes-22, "a"), whole(1<<63-1))...)), bytes)
		holdLong(t, prog(block(append(texts(bytes-23, "a"), name(strings.Repeat("z", 20)))...)), bytes)
		holdLong(t, prog(block(append(texts(bytes-14, "a"), un("-", bin("+", whole(1), whole(2))))...)), bytes)
		holdLong(t, prog(block(append(texts(bytes-16, "a"), letOf("x", "A", whole(1)))...)), bytes)
		holdLong(t, prog(class("A", "", field("x", "?")), block(texts(bytes-len("class A { var x ; } "), "a")...)), bytes)
	}
	holdLong(t, prog(block(slices.Repeat([]api.Node{str(strings.Repeat("\n", 1000))}, 4998)...)), 7+2+4998*2002+4997*3)
	// What is not valid is told first.
	holdWrong(t, prog(block(append(texts(30000, "a"), whole(-1))...)), api.ErrRange, 2+len(texts(30000, "a")))
	holdWrong(t, prog(block(slices.Repeat([]api.Node{str(strings.Repeat("a", 1000))}, 4999)...)), api.ErrMany, 0)
}

// DOC.md, rule 4

// roomy returns a tree each of whose lists has room for more, where something else stands.
func roomy(n api.Node) api.Node {
	l := make([]api.Node, 0, len(n.Kids)+2)
	for _, x := range n.Kids {
		l = append(l, roomy(x))
	}
	behind := l[len(l):cap(l)]
	behind[0], behind[1] = name("spare"), api.Node{Kind: -1}
	n.Kids = l
	return n
}

// TestTreesStay holds that a tree is not changed, and that what its lists have room for is neither read nor written.
func TestTreesStay(t *testing.T) {
	made(300, func(m maker, n api.Node) {
		x := roomy(n)
		s, f := printer.Print(x)
		l, g := printer.Tokens(x)
		want, wrong := printer.Print(n)
		tokens, _ := printer.Tokens(n)
		if s != want || f != wrong || g != (api.Fault{}) || !slices.Equal(l, tokens) {
			t.Fatalf("%s: %s %v, and not %s %v", show(n), short(s), f, short(want), wrong)
		}
		if !equal(x, n) {
			t.Fatalf("%s: %s", show(n), show(x))
		}
		for _, y := range preorder(x) {
			behind := y.Kids[len(y.Kids):cap(y.Kids)]
			if len(behind) != 2 || !equal(behind[0], name("spare")) || !equal(behind[1], api.Node{Kind: -1}) {
				t.Fatalf("%s: written behind the kids of %s", show(n), show(*y))
			}
		}
		for _, y := range preorder(x) {
			*y = api.Node{Kind: -2}
		}
		if !slices.Equal(l, tokens) {
			t.Fatalf("%s: its tokens hang on it", show(n))
		}
	})
}

// TestTokensAreNew holds that tokens share nothing with those of another call.
func TestTokensAreNew(t *testing.T) {
	made(300, func(m maker, n api.Node) {
		l, _ := printer.Tokens(n)
		other, _ := printer.Tokens(n)
		want := slices.Clone(l)
		all := l[:cap(l)]
		for i := range all {
			all[i] = api.Token{Kind: -1, Text: "spoilt"}
		}
		again, f := printer.Tokens(n)
		if !slices.Equal(other, want) || !slices.Equal(again, want) || f != (api.Fault{}) {
			t.Fatalf("%s: %v, and then %v %v", show(n), other, again, f)
		}
	})
}

// TestSharedKids holds that a list may be that of several nodes, and that one which is in itself ends as too many nodes.
func TestSharedKids(t *testing.T) {
	l := []api.Node{bin("+", whole(1), whole(2)), name("x")}
	times, minus := kid(api.KindBin, l...), kid(api.KindBin, l...)
	times.Text, minus.Text = "*", "-"
	holdMain(t, "( 1 + 2 ) * x ; 1 + 2 - x ; 1 + 2 ; x", times, minus, l[0], l[1])
	for _, x := range []api.Node{un("-", whole(1)), block(), prog(block())} {
		ring := []api.Node{x}
		ring[0].Kids = ring
		for _, n := range []api.Node{prog(kid(api.KindBlock, ring...)), prog(ring...), {Kind: api.KindProg, Kids: ring}} {
			if s, f := printer.Print(n); s != "" || f != (api.Fault{Err: api.ErrMany}) {
				t.Errorf("%s %v", short(s), f)
			}
			if l, f := printer.Tokens(n); l != nil || f != (api.Fault{Err: api.ErrMany}) {
				t.Errorf("%d tokens, %v", len(l), f)
			}
		}
		if got := printer.Level(ring[0]); got != level(x) {
			t.Error(got)
		}
	}
}

// TestAtOnce holds that calls at the same time do not disturb one another.
func TestAtOnce(t *testing.T) {
	n := prog(class("A", "", method("m", "?", param("a", "int"), block(bin("*", bin("+", name("a"), whole(1)), whole(2))))), block(as("int", set("x", unit()))))
	bad := prog(block(whole(1), name("X")))
	want, _ := printer.Print(n)
	done := make(chan bool)
	for range 8 {
		go func() {
			ok := true
			for range 300 {
				s, f := printer.Print(n)
				_, g := printer.Print(bad)
				ok = ok && s == want && f == api.Fault{} && g == api.Fault{Err: api.ErrName, At: 3} && printer.Level(n) == 8
			}
			done <- ok
		}()
	}
	for range 8 {
		if !<-done {
			t.Error("not the same")
		}
	}
}
