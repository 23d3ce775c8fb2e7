package elab_test

import (
	"fmt"
	"slices"
	"strconv"
	"strings"
	"sync"
	"testing"

	"chaperon/api"
	"chaperon/elab"
	"chaperon/parser"
	"chaperon/table"
	"chaperon/tree"
)

// kinds are the words of kinds of nodes, by their numbers.
func kinds() []string {
	return strings.Fields("? Prog Class Field Method Param Block Int Real Bool Str Unit None This Var Let Set Get Put Call Super New If While Un Bin Read Print As Conv Cast DynGet DynPut DynCall DynBin")
}

// node is a node with these fields.
func node(kind int, text, typ string, kids ...api.Node) api.Node {
	return api.Node{Kind: kind, Text: text, Type: typ, Kids: kids}
}

func whole(n int) api.Node                     { return api.Node{Kind: api.KindInt, N: n} }
func truth(n int) api.Node                     { return api.Node{Kind: api.KindBool, N: n} }
func name(s string) api.Node                   { return node(api.KindVar, s, "") }
func none(class string) api.Node               { return node(api.KindNone, "", class) }
func block(kids ...api.Node) api.Node          { return node(api.KindBlock, "", "", kids...) }
func as(typ string, x api.Node) api.Node       { return node(api.KindAs, "", typ, x) }
func let(s, typ string, x api.Node) api.Node   { return node(api.KindLet, s, typ, x) }
func prog(kids ...api.Node) api.Node           { return node(api.KindProg, "", "", kids...) }
func un(op string, x api.Node) api.Node        { return node(api.KindUn, op, "", x) }
func call(s string, kids ...api.Node) api.Node { return node(api.KindCall, s, "", kids...) }

// visit calls do with each node of a tree, in preorder.
func visit(n *api.Node, do func(*api.Node)) {
	do(n)
	for i := range n.Kids {
		visit(&n.Kids[i], do)
	}
}

// preorder returns the nodes of a tree, each at its place.
func preorder(n *api.Node) []*api.Node {
	var l []*api.Node
	visit(n, func(x *api.Node) { l = append(l, x) })
	return l
}

// show writes an elaborated node as the chapter does: its kind and its type; of a cast both types and its label; its text, its number, the class From. What a node of its kind should not have stands behind a !.
func show(n api.Node) string {
	word := "Kind" + strconv.Itoa(n.Kind)
	if n.Kind > 0 && n.Kind < len(kinds()) {
		word = kinds()[n.Kind]
	}
	out := word + " " + n.Type
	hasFrom, hasNumber := slices.Contains([]int{17, 18, 19, 20}, n.Kind), slices.Contains([]int{7, 8, 9, 14, 15, 16, 31, 32, 33, 34}, n.Kind)
	if n.Kind == api.KindCast {
		out = "Cast " + n.From + " > " + n.Type + ", " + strconv.Itoa(n.N)
	}
	switch {
	case n.Kind == api.KindStr:
		out += " " + strconv.Quote(n.Text)
	case n.Text != "":
		out += " " + n.Text
	}
	switch {
	case hasNumber:
		out += " " + strconv.Itoa(n.N)
	case n.N != 0 && n.Kind != api.KindCast:
		out += " !" + strconv.Itoa(n.N)
	}
	switch {
	case hasFrom:
		out += " of " + n.From
	case n.From != "" && n.Kind != api.KindCast:
		out += " !" + n.From
	}
	var kids []string
	for _, k := range n.Kids {
		kids = append(kids, show(k))
	}
	if len(kids) == 0 {
		return out
	}
	return out + " [" + strings.Join(kids, ", ") + "]"
}

// showSites writes sites.
func showSites(l []api.Site) string {
	words := map[int]string{1: "cast", 2: "get", 3: "put", 4: "call", 5: "op"}
	var all []string
	for _, s := range l {
		word := words[s.What]
		if word == "" {
			word = strconv.Itoa(s.What)
		}
		all = append(all, word+" "+s.From+" > "+s.To)
	}
	return strings.Join(all, ", ")
}

// showBody writes a body: its class and its name, the types of its locals, its code.
func showBody(b api.Body) string {
	return b.Class + "." + b.Name + "(" + strings.Join(b.Locals, " ") + ") " + show(b.Code)
}

// tell writes all of a program, each field of it.
func tell(p api.Prog) string {
	all := fmt.Sprintf("%+v", p.Table)
	for _, b := range p.Bodies {
		all += "\n" + showBody(b)
	}
	return all + "\n" + fmt.Sprintf("%+v", p.Sites)
}

// short cuts a long text off, so that it can be told.
func short(s string) string {
	if len(s) > 2000 {
		return s[:2000] + ".. (" + strconv.Itoa(len(s)) + " bytes)"
	}
	return s
}

// parsed is the tree of a source.
func parsed(t *testing.T, source string) api.Node {
	t.Helper()
	n, f := parser.Parse([]byte(source))
	if f != (api.Fault{}) {
		t.Fatalf("%s: %v", short(source), f)
	}
	return n
}

// holdProg holds the bodies and the sites of a tree's program; its table is held to be that of the tree.
func holdProg(t *testing.T, n api.Node, what, sites string, bodies ...string) {
	t.Helper()
	p, f := elab.Elab(n)
	var got []string
	for _, b := range p.Bodies {
		got = append(got, showBody(b))
	}
	if f != (api.Fault{}) || !slices.Equal(got, bodies) {
		t.Errorf("%s: %v\n%s\nand not\n%s", short(what), f, strings.Join(got, "\n"), strings.Join(bodies, "\n"))
	}
	if s := showSites(p.Sites); s != sites {
		t.Errorf("%s: the sites %s, and not %s", short(what), s, sites)
	}
	if a, b := fmt.Sprintf("%+v", p.Table), fmt.Sprintf("%+v", elab.Table(n)); a != b {
		t.Errorf("%s: the table %s, and not %s", short(what), a, b)
	}
}

// hold holds the bodies and the sites of a source's program.
func hold(t *testing.T, source, sites string, bodies ...string) {
	t.Helper()
	holdProg(t, parsed(t, source), source, sites, bodies...)
}

// holdMains holds lines of three parts with | between them: what stands in main's block; main's code; all sites, if there are any. The classes before it have no sites.
func holdMains(t *testing.T, classes, lines string) {
	t.Helper()
	for line := range strings.Lines(strings.TrimSpace(lines)) {
		parts := strings.Split(strings.TrimSpace(line), " | ")
		if len(parts) < 3 {
			parts = append(parts, "")
		}
		source := classes + "main{" + parts[0] + "}"
		p, f := elab.Elab(parsed(t, source))
		if f != (api.Fault{}) {
			t.Errorf("%s: %v", source, f)
			continue
		}
		main := p.Bodies[len(p.Bodies)-1]
		if s := show(main.Code); s != parts[1] {
			t.Errorf("%s:\n%s\nand not\n%s", source, s, parts[1])
		}
		if s := showSites(p.Sites); s != parts[2] {
			t.Errorf("%s: the sites %s, and not %s", source, s, parts[2])
		}
	}
}

// holdFault holds the fault of a tree: beside it there is no program.
func holdFault(t *testing.T, n api.Node, what string, err api.Errno, at int) {
	t.Helper()
	p, f := elab.Elab(n)
	if f != (api.Fault{Err: err, At: at}) {
		t.Errorf("%s: %v, and not %v at %d", short(what), f, err, at)
	}
	if p.Table != nil || p.Bodies != nil || p.Sites != nil {
		t.Errorf("%s: %s beside a fault", short(what), short(tell(p)))
	}
}

// holdFaults holds lines of two parts with | between them: what stands behind the classes; the error's number and the place, counted from that of main's block on.
func holdFaults(t *testing.T, classes, lines string) {
	t.Helper()
	for line := range strings.Lines(strings.TrimSpace(lines)) {
		body, want, _ := strings.Cut(strings.TrimSpace(line), " | ")
		var err, at int
		if n, e := fmt.Sscan(want, &err, &at); n != 2 {
			t.Fatal(line, e)
		}
		source := classes + "main{" + body + "}"
		n := parsed(t, source)
		holdFault(t, n, source, api.Errno(err), at+tree.Count(n)-tree.Count(n.Kids[len(n.Kids)-1]))
	}
}

// P17.1

func TestTable(t *testing.T) {
	for source, want := range map[string]string{
		"main{}":                          "[]",
		"class A{}main{}":                 "[{Name:A Super: Fields:[] Methods:[]}]",
		"class B:A{}class A{}main{}":      "[{Name:B Super:A Fields:[] Methods:[]} {Name:A Super: Fields:[] Methods:[]}]",
		"class A{var y:int;var x;}main{}": "[{Name:A Super: Fields:[{Name:y Type:int} {Name:x Type:?}] Methods:[]}]",
		"class A{var x:B;def m(b:real,a):A{()}def k():unit{}}class B{def l(){1}}main{let z:int=1}": "[{Name:A Super: Fields:[{Name:x Type:B}] Methods:[{Name:m Params:[{Name:b Type:real} {Name:a Type:?}] Result:A} {Name:k Params:[] Result:unit}]} {Name:B Super: Fields:[] Methods:[{Name:l Params:[] Result:?}]}]",
		// A table that has a fault is one nevertheless, and so is that of a program that has one.
		"class A:C{var x:D;var x:int;}class A{def x(a,a){}}main{this}": "[{Name:A Super:C Fields:[{Name:x Type:D} {Name:x Type:int}] Methods:[]} {Name:A Super: Fields:[] Methods:[{Name:x Params:[{Name:a Type:?} {Name:a Type:?}] Result:?}]}]",
	} {
		if s := fmt.Sprintf("%+v", elab.Table(parsed(t, source))); s != want {
			t.Errorf("%s: %s, and not %s", source, s, want)
		}
	}
}

// invalid returns trees that are not valid, with their faults.
func invalid() map[string]api.Node {
	deep := whole(1)
	for range 57 {
		deep = un("-", deep)
	}
	wide := block(slices.Repeat([]api.Node{whole(1)}, 4999)...)
	ring := block(whole(1))
	ring.Kids[0] = ring
	return map[string]api.Node{
		"nothing":       {},
		"a block":       block(),
		"no block":      prog(),
		"41 classes":    prog(append(slices.Repeat([]api.Node{node(2, "A", "")}, 41), block())...),
		"21 fields":     prog(node(2, "A", "", slices.Repeat([]api.Node{node(3, "x", "?")}, 21)...), block()),
		"too deep":      prog(block(un("-", deep))),
		"too wide":      prog(wide),
		"of itself":     prog(ring),
		"an elaborated": prog(block(node(30, "", "?", whole(1)))),
		"a DynGet":      prog(block(node(31, "f", "?", whole(1)))),
		"with a type":   prog(block(node(7, "", "int"))),
		"below 0":       prog(block(whole(-1))),
		"a wrong type":  prog(block(as("int2", whole(1)))),
		"a wrong name":  prog(block(name("X"))),
		"a wrong class": prog(node(2, "a", ""), block()),
		"a long text":   prog(block(node(10, strings.Repeat("a", 1001), ""))),
		"behind faults": prog(node(2, "A", "B"), node(2, "A", "A"), block(name("x"), node(24, "?", "", whole(1)))),
		"a let outside": prog(block(node(27, "", "", let("x", "?", whole(1))))),
	}
}

// TestInvalidTrees holds that the fault of a tree is returned ahead of all others, and that such a tree has no table.
func TestInvalidTrees(t *testing.T) {
	for what, n := range invalid() {
		want := tree.Check(n)
		if want == (api.Fault{}) {
			t.Fatalf("%s: valid", what)
		}
		holdFault(t, n, what, want.Err, want.At)
		if l := elab.Table(n); l != nil {
			t.Errorf("%s: %+v", what, l)
		}
	}
	holdFault(t, invalid()["behind faults"], "behind faults", api.ErrForm, 5)
	holdFault(t, invalid()["too deep"], "too deep", api.ErrDeep, 60)
	holdFault(t, invalid()["too wide"], "too wide", api.ErrMany, 0)
}

// TestLargestTrees holds trees that are just not too deep or too large.
func TestLargestTrees(t *testing.T) {
	deep := whole(7)
	for range 57 {
		deep = un("-", deep)
	}
	p, f := elab.Elab(prog(block(deep)))
	if want := ".main() Block int [" + strings.Repeat("Un int - [", 57) + "Int int 7" + strings.Repeat("]", 58); f != (api.Fault{}) || showBody(p.Bodies[0]) != want {
		t.Errorf("%v, %s", f, tell(p))
	}
	p, f = elab.Elab(prog(block(slices.Repeat([]api.Node{whole(1)}, 4998)...)))
	if want := ".main() Block int [" + strings.Repeat("Int int 1, ", 4997) + "Int int 1]"; f != (api.Fault{}) || showBody(p.Bodies[0]) != want {
		t.Errorf("%v", f)
	}
	// It becomes deeper than the source: the second kid of each && is in a block.
	deep, code := name("x"), "Cast ? > bool, 2 [Var ? 0]"
	for range 56 {
		deep = node(api.KindBin, "&&", "", truth(1), deep)
		code = "If bool [Bool bool 1, Block bool [" + code + "], Block bool [Bool bool 0]]"
	}
	holdProg(t, prog(block(let("x", "?", truth(0)), deep)), "&& in &&", "cast bool > ?, cast ? > bool", ".main(?) Block bool [Let unit 0 [Cast bool > ?, 1 [Bool bool 0]], "+code+"]")
}

// TestFaultsOfTables holds that the fault of a table stands at the place of its class.
func TestFaultsOfTables(t *testing.T) {
	for _, x := range []struct {
		source string
		err    api.Errno
		at     int
	}{
		{"class A:A{}main{}", 9, 1},
		{"class A{}class A{}main{}", 8, 2},
		{"class A{var x;def m(a,b){1+2}}class B{var y;}class C:D{}main{}", 6, 12},
		{"class A{var x;}class B{def m(){this}}class C:B{}class D:C{def m():int{1}}main{}", 10, 8},
		{"class A{var x:B;}class C{}main{}", 6, 1},
		{"class C{}class A{def m():B{}}main{}", 6, 2},
		{"class C{}class A{def m(b:B){}}main{}", 6, 2},
		{"class C{}class A{var x;var x;}main{}", 8, 2},
		{"class C{}class A{var x;def x(){}}main{}", 8, 2},
		{"class C{}class A{def m(){}def m(){}}main{}", 8, 2},
		{"class C{}class A{def m(a,a){}}main{}", 8, 2},
		{"class A:B{}class B:A{}main{}", 9, 1},
		{"class C{var x;}class A:C{var x;}main{}", 8, 3},
		// Names come first, then superclasses, then members: not what stands first.
		{"class A{var x:Z;}class B:Y{}class A{}main{}", 8, 4},
		{"class A{var x:Z;}class B:Y{}main{}", 6, 3},
		// A table's fault comes ahead of those of bodies, wherever they stand.
		{"class A{def m(){x}}class B{var y:Z;}main{this}", 6, 5},
		{"class A{def m():int{\"\"}}class A{}main{}", 8, 5},
	} {
		holdFault(t, parsed(t, x.source), x.source, x.err, x.at)
	}
}

// TestBodies holds which bodies there are: of each class's own methods, in order, and main's.
func TestBodies(t *testing.T) {
	hold(t, "main{}", "", ".main() Block unit")
	hold(t, "class A{}class B:A{var x;}main{1}", "", ".main() Block int [Int int 1]")
	hold(t, "class A{var f;def m(a:int,b:str):unit{}def k():int{1}}class B:A{def m(c:int,d:str):unit{}def z():A{this}}main{()}", "",
		"A.m(int str) Block unit", "A.k() Block int [Int int 1]", "B.m(int str) Block unit", "B.z() Block B [This B]", ".main() Block unit [Unit unit]")
	hold(t, "class B:A{def k():int{2}}class A{def k():int{1}}main{}", "",
		"B.k() Block int [Int int 2]", "A.k() Block int [Int int 1]", ".main() Block unit")
	hold(t, "class A{def m(a:real,b):unit{let x:A=this;while true{let y:bool=true};let z:int=3;()}}main{let q:str=\"\"}", "",
		"A.m(real ? A bool int) Block unit [Let unit 2 [This A], While unit [Bool bool 1, Block unit [Let unit 3 [Bool bool 1]]], Let unit 4 [Int int 3], Unit unit]",
		".main(str) Block unit [Let unit 0 [Str str \"\"]]")
}

// TestResults holds that the block of a method is brought to its result, and main's to none.
func TestResults(t *testing.T) {
	hold(t, "class A{def m(){1}}main{}", "cast int > ?", "A.m() Cast int > ?, 1 [Block int [Int int 1]]", ".main() Block unit")
	hold(t, "class A{def m(){}}main{}", "cast unit > ?", "A.m() Cast unit > ?, 1 [Block unit]", ".main() Block unit")
	hold(t, "class A{def m(a){a}}main{}", "", "A.m(?) Block ? [Var ? 0]", ".main() Block unit")
	hold(t, "class A{def m(a):int{a}}main{}", "cast ? > int", "A.m(?) Cast ? > int, 1 [Block ? [Var ? 0]]", ".main() Block unit")
	hold(t, "class A{def m():A{new B()}}class B:A{}main{}", "", "A.m() Block B [New B]", ".main() Block unit")
	hold(t, "class A{def m():B{new C()}}class B{}class C{}main{}", "cast C > B", "A.m() Cast C > B, 1 [Block C [New C]]", ".main() Block unit")
	// The cast of a block comes after those within it, and sites go on from body to body.
	hold(t, "class A{def m(a){(a:int)}def k(a):int{(a:str);a}}main{(1:?)}", "cast ? > int, cast int > ?, cast ? > str, cast ? > int, cast int > ?",
		"A.m(?) Cast int > ?, 2 [Block int [Block int [Cast ? > int, 1 [Var ? 0]]]]",
		"A.k(?) Cast ? > int, 4 [Block ? [Block str [Cast ? > str, 3 [Var ? 0]], Var ? 0]]",
		".main() Block ? [Block ? [Cast int > ?, 5 [Int int 1]]]")
	for _, x := range []struct {
		source string
		at     int
	}{
		{"class A{def m():int{}}main{}", 3},
		{"class A{var x;var y;def m(a,b:int):int{\"\"}}main{}", 7},
		{"class A{def m():int{1}}class B{def m():A{new B()}}main{}", 7},
		{"class A{def m():unit{1;2}}main{}", 3},
		{"class A{def m():int{1}def k():unit{1}}main{}", 6},
		{"class A{def m():B{this}}class B:A{var x;}main{}", 3},
	} {
		holdFault(t, parsed(t, x.source), x.source, api.ErrType, x.at)
	}
}

// TestFirstFault holds that of several faults the first one is told.
func TestFirstFault(t *testing.T) {
	for _, x := range []struct {
		source string
		err    api.Errno
		at     int
	}{
		{"class A{def m(){x}}class B{def m(){this.z}}main{this}", 6, 4},
		{"class A{def m(){()}}class B{def m(){this.z}}main{this}", 6, 8},
		{"class A{def m(){()}}class B{def m():int{()}}main{this}", 7, 7},
		{"class A{def m(){()}}class B{def m(){()}}main{this;x}", 6, 10},
		{"class A{def m():int{\"\"}def k(){x}}main{}", 7, 3},
		{"class A{def m():int{x;\"\"}def k(){x}}main{}", 6, 4},
		{"main{x;!1}", 6, 2},
		{"main{!1;x}", 7, 2},
		{"main{!x}", 6, 3},
		{"main{!-true}", 7, 3},
		{"main{1+(x+true)}", 6, 5},
		{"main{1+(2+true)}", 7, 4},
		{"main{(true-1)+(2+true)}", 7, 3},
		{"main{1+true+x}", 7, 3},
		{"main{while 1{x}}", 7, 3},
		{"main{while true{x}}", 6, 5},
		{"main{while x{this}}", 6, 3},
		{"main{if 1{x}else{this}}", 7, 3},
		{"main{if true{x}else{this}}", 6, 5},
		{"main{if true{()}else{this}}", 6, 7},
		{"main{x.f=y}", 6, 3},
		{"main{x.f(y)}", 6, 3},
		{"main{1.f=y}", 7, 2},
		{"main{1.f(y)}", 7, 2},
		{"main{x=y}", 6, 2},
		{"main{let x:Z=y}", 6, 2},
		{"main{let x=y}", 6, 3},
		{"main{(y:Z)}", 6, 2},
		{"main{(y:int)}", 6, 3},
		{"main{new Z(y)}", 6, 2},
		{"main{new Z(y).f}", 6, 3},
		{"main{super.m(y)}", 6, 2},
		{"main{print(y)}", 6, 3},
		{"main{print(super.m(y))}", 6, 3},
		{"class A{def m(){super.k(x)}}main{}", 6, 4},
		{"class A{}main{new A(x)}", 7, 3},
		{"class A{def init(a:int):unit{}}main{new A(\"\",x)}", 7, 6},
		{"class A{def init(a:int,b:int):unit{}}main{new A(\"\",x)}", 7, 8},
		{"class A{def init(a:int,b:int):unit{}}main{new A(x,\"\")}", 6, 8},
		{"class A{def m(a:int,b:int):unit{}}main{(none A).m(\"\",x)}", 7, 9},
		{"class A{def m(a:int,b:int):unit{}}main{(none A).m(x,\"\")}", 6, 9},
		{"class A{def m(a:int,b:int):unit{}}class B:A{def k():unit{super.m(\"\",x)}}main{}", 7, 10},
		{"class A{def m(a:int,b:int):unit{}}class B:A{def k():unit{super.m(x,\"\")}}main{}", 6, 10},
	} {
		holdFault(t, parsed(t, x.source), x.source, x.err, x.at)
	}
}

// P17.2

// TestLiterals holds what is elaborated as it is.
func TestLiterals(t *testing.T) {
	holdMains(t, "", `
		0 | Block int [Int int 0]
		9223372036854775807 | Block int [Int int 9223372036854775807]
		0r | Block real [Real real 0]
		9007199254740992r | Block real [Real real 9007199254740992]
		nan | Block real [Real real nan 0]
		inf | Block real [Real real inf 0]
		true | Block bool [Bool bool 1]
		false | Block bool [Bool bool 0]
		"" | Block str [Str str ""]
		"a b\n\"?" | Block str [Str str "a b\n\"?"]
		() | Block unit [Unit unit]
		read() | Block int [Read int]
		1;2r;true;"s";();read() | Block int [Int int 1, Real real 2, Bool bool 1, Str str "s", Unit unit, Read int]
	`)
	holdMains(t, "class A{}class Int{}", `
		none A | Block A [None A]
		none Int | Block Int [None Int]
	`)
	holdFaults(t, "class A{}class Int{}", `
		none B | 6 1
		1;none AA | 6 2
		print(none Intt) | 6 2
	`)
	holdFaults(t, "", "none A | 6 1")
}

func TestThis(t *testing.T) {
	hold(t, "class A{def m():A{this}}class B:A{def k():A{let x:B=this;this}}main{}", "",
		"A.m() Block A [This A]", "B.k(B) Block B [Let unit 0 [This B], This B]", ".main() Block unit")
	holdFaults(t, "class A{def m():A{this}}", `
		this | 6 1
		this.m() | 6 2
		1;(this:A) | 6 3
	`)
}

// TestLocals holds how locals are numbered: parameters, and then lets in the order of their places.
func TestLocals(t *testing.T) {
	hold(t, "class A{def m(a:int,b:bool):bool{a=3;b}}main{}", "", "A.m(int bool) Block bool [Set unit 0 [Int int 3], Var bool 1]", ".main() Block unit")
	hold(t, "main{let x:int=1;let y:int=x;x=y;y}", "", ".main(int int) Block int [Let unit 0 [Int int 1], Let unit 1 [Var int 0], Set unit 0 [Var int 1], Var int 1]")
	// A let is numbered before those within its own kid, and not known there.
	hold(t, "main{let x:int=if true{let y:int=1;y}else{let z:int=2;z};x}", "",
		".main(int int int) Block int [Let unit 0 [If int [Bool bool 1, Block int [Let unit 1 [Int int 1], Var int 1], Block int [Let unit 2 [Int int 2], Var int 2]]], Var int 0]")
	// A block ends what is known in it, not what is numbered.
	hold(t, "main{let x:int=1;while true{let y:int=x;y};let z:int=x;z}", "",
		".main(int int int) Block int [Let unit 0 [Int int 1], While unit [Bool bool 1, Block int [Let unit 1 [Var int 0], Var int 1]], Let unit 2 [Var int 0], Var int 2]")
	hold(t, "main{if true{let a:int=1;if true{let b:int=a;b}else{let c:int=a;c};a}else{let d:int=4;d}}", "",
		".main(int int int int) Block int [If int [Bool bool 1, Block int [Let unit 0 [Int int 1], If int [Bool bool 1, Block int [Let unit 1 [Var int 0], Var int 1], Block int [Let unit 2 [Var int 0], Var int 2]], Var int 0], Block int [Let unit 3 [Int int 4], Var int 3]]]")
	// Each body has locals of its own.
	hold(t, "class A{def m(a:int):int{let b:int=a;b}def k(b:str,a:int):int{a}}main{let a:real=1r;a}", "",
		"A.m(int int) Block int [Let unit 1 [Var int 0], Var int 1]", "A.k(str int) Block int [Var int 1]", ".main(real) Block real [Let unit 0 [Real real 1], Var real 0]")
	holdFaults(t, "class A{var f:int;def m(p:int):int{let q:int=p;q}}", `
		x | 6 1
		p | 6 1
		q | 6 1
		f | 6 1
		m | 6 1
		x=1 | 6 1
		p=p | 6 1
		let x=1;y | 6 3
		x;let x=1 | 6 1
		let x=x | 6 2
		let x=1+x | 6 4
		let x=if true{x}else{1} | 6 5
		let x=if true{let y=1;x}else{1} | 6 7
		let x=if true{let y=1;y}else{y} | 6 9
		while true{let x=1};x | 6 6
		if true{let x=1;x}else{x} | 6 8
		if true{let x=1;x}else{1};x | 6 9
		while true{while true{let x=1};x} | 6 9
		let x=1;if true{let y=2}else{};x=y | 6 10
		let y=1;if true{let z=2;z=x}else{};y | 6 9
		print(if true{let x=1;x}else{2})==x | 6 11
	`)
}

// TestLets holds what is checked of a let, in order, and what becomes of its kid.
func TestLets(t *testing.T) {
	holdMains(t, "class A{}class B:A{}class C{var z;}", `
		let x=1 | Block unit [Let unit 0 [Cast int > ?, 1 [Int int 1]]] | cast int > ?
		let x:int=1 | Block unit [Let unit 0 [Int int 1]]
		let x:int=(1:?) | Block unit [Let unit 0 [Cast ? > int, 2 [Block ? [Cast int > ?, 1 [Int int 1]]]]] | cast int > ?, cast ? > int
		let x:A=none B | Block unit [Let unit 0 [None B]]
		let x:A=none C | Block unit [Let unit 0 [Cast C > A, 1 [None C]]] | cast C > A
		let x=none A;x | Block ? [Let unit 0 [Cast A > ?, 1 [None A]], Var ? 0] | cast A > ?
		let x=();let y=x;() | Block unit [Let unit 0 [Cast unit > ?, 1 [Unit unit]], Let unit 1 [Var ? 0], Unit unit] | cast unit > ?
		let x:A=none A;x=none B;x=none C | Block unit [Let unit 0 [None A], Set unit 0 [None B], Set unit 0 [Cast C > A, 1 [None C]]] | cast C > A
		let x:A=none A;x=(none B:A) | Block unit [Let unit 0 [None A], Set unit 0 [Block A [None B]]]
		let x:real=1r;x=(1:?) | Block unit [Let unit 0 [Real real 1], Set unit 0 [Cast ? > real, 2 [Block ? [Cast int > ?, 1 [Int int 1]]]]] | cast int > ?, cast ? > real
		let x=1;x=2r;x=x | Block unit [Let unit 0 [Cast int > ?, 1 [Int int 1]], Set unit 0 [Cast real > ?, 2 [Real real 2]], Set unit 0 [Var ? 0]] | cast int > ?, cast real > ?
	`)
	holdFaults(t, "class A{}class B:A{var z;}class C{var y;}", `
		let x:int="" | 7 2
		let x:B=none A | 7 2
		let x:B=none C | 7 2
		let x:str=() | 7 2
		let x:A=1 | 7 2
		let x:int=none A | 7 2
		let x:int=1;x="" | 7 4
		let x:B=none B;x=none A | 7 4
		let x:D=1 | 6 1
		1;let x:D=none D | 6 2
		let x=1;let x=2 | 8 3
		let x=1;let x:D=2 | 6 3
		let x=1;let x:int=y | 8 3
		let x=y;let x=2 | 6 2
		let x=if true{let x=1;x}else{2} | 8 5
		if true{let x=1}else{let x=2} | 8 7
		while true{let x=1};let x=2 | 8 6
		if true{let x=1}else{};while true{let x=2} | 8 10
		let x=1;let y=2;let z=3;let y=4 | 8 7
	`)
	for _, x := range []struct {
		source string
		err    api.Errno
		at     int
	}{
		{"class A{def m(a){let a=1}}main{}", 8, 5},
		{"class A{def m(a,b){let c=1;let b=1}}main{}", 8, 8},
		{"class A{def m(a){let b=1}def k(b){let a=1;let b=2}}main{}", 8, 12},
	} {
		holdFault(t, parsed(t, x.source), x.source, x.err, x.at)
	}
	// Names of other bodies, of fields, methods and of main do not matter.
	hold(t, "class A{var f:int;def m(a:int):unit{let f:int=1;let k:int=2;let m:int=3}def k(a:int):unit{let b:int=1}}main{let a:int=1;let f:int=2;let m:int=3}", "",
		"A.m(int int int int) Block unit [Let unit 1 [Int int 1], Let unit 2 [Int int 2], Let unit 3 [Int int 3]]", "A.k(int int) Block unit [Let unit 1 [Int int 1]]",
		".main(int int int) Block unit [Let unit 0 [Int int 1], Let unit 1 [Int int 2], Let unit 2 [Int int 3]]")
}

// lets returns so many lets, each with a name of its own.
func lets(n int) []api.Node {
	var l []api.Node
	for i := range n {
		l = append(l, let("x"+strconv.Itoa(i), "int", whole(i)))
	}
	return l
}

// TestMostLocals holds how many locals a body has at most.
func TestMostLocals(t *testing.T) {
	for n := 198; n <= 203; n++ {
		tr := prog(block(lets(n)...))
		if n > 200 {
			holdFault(t, tr, "lets", api.ErrMany, 2+2*200)
			continue
		}
		p, f := elab.Elab(tr)
		if f != (api.Fault{}) || len(p.Bodies[0].Locals) != n || p.Bodies[0].Code.Kids[n-1].N != n-1 {
			t.Errorf("%d lets: %v", n, f)
		}
	}
	// Those of blocks that have ended count, and so do parameters; those of other bodies do not.
	params := []api.Node{node(5, "a", "int"), node(5, "b", "int"), node(5, "c", "int")}
	method := func(n int) api.Node {
		return node(4, "m", "unit", append(slices.Clone(params), block(node(api.KindWhile, "", "", truth(0), block(lets(n)...))))...)
	}
	for n := 196; n <= 199; n++ {
		tr := prog(node(2, "A", "", method(n)), block(lets(200)...))
		if n > 197 {
			holdFault(t, tr, "lets of a method", api.ErrMany, 10+2*197)
			continue
		}
		p, f := elab.Elab(tr)
		if f != (api.Fault{}) || len(p.Bodies[0].Locals) != n+3 || len(p.Bodies[1].Locals) != 200 {
			t.Errorf("%d lets of a method: %v", n, f)
		}
	}
	ended := node(api.KindWhile, "", "", truth(0), block(lets(150)...))
	if p, f := elab.Elab(prog(block(append([]api.Node{ended}, lets(200)[150:]...)...))); f != (api.Fault{}) || len(p.Bodies[0].Locals) != 200 {
		t.Errorf("%v", f)
	}
	holdFault(t, prog(block(append([]api.Node{ended}, lets(201)[150:]...)...)), "lets beside ended ones", api.ErrMany, 2+3+2*150+2*50)
	// What is checked before: the type, and the name.
	for _, x := range []struct {
		n   api.Node
		err api.Errno
	}{{let("y", "Z", whole(1)), 6}, {let("x0", "?", whole(1)), 8}, {let("x199", "Z", whole(1)), 6}, {let("y", "int", node(10, "", "")), 12}, {let("y", "int", name("z")), 12}} {
		holdFault(t, prog(block(append(lets(200), x.n)...)), "a let more", x.err, 402)
	}
}

func TestBlocks(t *testing.T) {
	holdMains(t, "class A{}", `
		() | Block unit [Unit unit]
		1;"" | Block str [Int int 1, Str str ""]
		"";none A | Block A [Str str "", None A]
		1;let x:int=2 | Block unit [Int int 1, Let unit 0 [Int int 2]]
		let x:int=2;x | Block int [Let unit 0 [Int int 2], Var int 0]
		while false{} | Block unit [While unit [Bool bool 0, Block unit]]
		while false{1} | Block unit [While unit [Bool bool 0, Block int [Int int 1]]]
		while (true:?){} | Block unit [While unit [Cast ? > bool, 2 [Block ? [Cast bool > ?, 1 [Bool bool 1]]], Block unit]] | cast bool > ?, cast ? > bool
		while (true:?){(1:?)} | Block unit [While unit [Cast ? > bool, 2 [Block ? [Cast bool > ?, 1 [Bool bool 1]]], Block ? [Block ? [Cast int > ?, 3 [Int int 1]]]]] | cast bool > ?, cast ? > bool, cast int > ?
		print(1) | Block unit [Print unit [Int int 1]]
		print((1:?)) | Block unit [Print unit [Block ? [Cast int > ?, 1 [Int int 1]]]] | cast int > ?
		print(none A);print(()) | Block unit [Print unit [None A], Print unit [Unit unit]]
	`)
	holdFaults(t, "class A{}", `
		while 1{} | 7 2
		while (){} | 7 2
		while none A{} | 7 2
		while 1==1{while "s"{}} | 7 7
		print(print(x)) | 6 3
	`)
}

func TestAs(t *testing.T) {
	holdMains(t, "class A{}class B:A{var y;}class C{var y;}", `
		(1:int) | Block int [Block int [Int int 1]]
		(1:?) | Block ? [Block ? [Cast int > ?, 1 [Int int 1]]] | cast int > ?
		((1:?):real) | Block real [Block real [Cast ? > real, 2 [Block ? [Cast int > ?, 1 [Int int 1]]]]] | cast int > ?, cast ? > real
		((1:?):?) | Block ? [Block ? [Block ? [Cast int > ?, 1 [Int int 1]]]] | cast int > ?
		(none B:A) | Block A [Block A [None B]]
		(none B:C) | Block C [Block C [Cast B > C, 1 [None B]]] | cast B > C
		(none C:A) | Block A [Block A [Cast C > A, 1 [None C]]] | cast C > A
		((none C:A):?) | Block ? [Block ? [Cast A > ?, 2 [Block A [Cast C > A, 1 [None C]]]]] | cast C > A, cast A > ?
		((():?):A) | Block A [Block A [Cast ? > A, 2 [Block ? [Cast unit > ?, 1 [Unit unit]]]]] | cast unit > ?, cast ? > A
	`)
	holdFaults(t, "class A{}class B:A{var y;}class C{var y;}", `
		(1:real) | 7 2
		(1:A) | 7 2
		(none A:B) | 7 2
		(none A:C) | 7 2
		(none A:int) | 7 2
		(none A:D) | 6 1
		((1:?):D) | 6 1
		((1:D):?) | 6 2
		((1:real):?) | 7 3
		print((1+2:str)) | 7 3
	`)
}

const members = "class A{var x:int;var y;var z:A;def m(a:int,b):str{\"\"}def k():unit{}}class B:A{var w:B;def n(b:B):B{this}def m(c:int,d):str{\"b\"}}class C{var x:int;var y:bool;var z;def m(a,b:real):str{\"c\"}def k():unit{}}"

// TestMembers holds how members of a class are used: by their types.
func TestMembers(t *testing.T) {
	holdMains(t, members, `
		(none A).x | Block int [Get int x of A [None A]]
		(none A).y | Block ? [Get ? y of A [None A]]
		(none B).x | Block int [Get int x of B [None B]]
		(none B).w.z.y | Block ? [Get ? y of A [Get A z of B [Get B w of B [None B]]]]
		(none A).x=1 | Block unit [Put unit x of A [None A, Int int 1]]
		(none A).y=1 | Block unit [Put unit y of A [None A, Cast int > ?, 1 [Int int 1]]] | cast int > ?
		(none A).x=(none A).y | Block unit [Put unit x of A [None A, Cast ? > int, 1 [Get ? y of A [None A]]]] | cast ? > int
		(none B).z=none B | Block unit [Put unit z of B [None B, None B]]
		(none B).z=none C | Block unit [Put unit z of B [None B, Cast C > A, 1 [None C]]] | cast C > A
		(none A).m(1,2) | Block str [Call str m of A [None A, Int int 1, Cast int > ?, 1 [Int int 2]]] | cast int > ?
		(none B).m(1,(2:?)) | Block str [Call str m of B [None B, Int int 1, Block ? [Cast int > ?, 1 [Int int 2]]]] | cast int > ?
		(none B).k() | Block unit [Call unit k of B [None B]]
		(none B).n(none B).n(none B).x | Block int [Get int x of B [Call B n of B [Call B n of B [None B, None B], None B]]]
		(none C).m((1:?),(2:?)) | Block str [Call str m of C [None C, Block ? [Cast int > ?, 1 [Int int 1]], Cast ? > real, 3 [Block ? [Cast int > ?, 2 [Int int 2]]]]] | cast int > ?, cast int > ?, cast ? > real
		((1:?):A).z=((2:?):C) | Block unit [Put unit z of A [Block A [Cast ? > A, 2 [Block ? [Cast int > ?, 1 [Int int 1]]]], Cast C > A, 5 [Block C [Cast ? > C, 4 [Block ? [Cast int > ?, 3 [Int int 2]]]]]]] | cast int > ?, cast ? > A, cast int > ?, cast ? > C, cast C > A
	`)
	holdFaults(t, members, `
		(none A).w | 6 1
		(none A).m | 6 1
		(none A).n | 6 1
		(none A).w=1 | 6 1
		(none A).m=x | 6 1
		(none A).k=() | 6 1
		(none A).x() | 6 1
		(none A).z(1) | 6 1
		(none A).n(none B) | 6 1
		(none A).nn(x) | 6 1
		(none A).x="" | 7 3
		(none B).w=none A | 7 3
		(none A).m() | 7 1
		(none A).m(1) | 7 1
		(none A).m(1,2,3) | 7 1
		(none A).k(x) | 7 1
		(none A).m("",2) | 7 3
		(none B).n(none A) | 7 3
		(none C).m(1,2) | 7 4
		1.x | 7 1
		1.x=2 | 7 1
		1.m(2,3) | 7 1
		().x | 7 1
		"".length | 7 1
		true.x=y | 7 1
		1r.k() | 7 1
		(none A).x.x | 7 1
		(none A).k().k() | 7 1
		1;2;(none A).z.z.z.w.x | 6 4
		print((none A).m(1,(none A).q)) | 6 5
	`)
}

// TestDynamicMembers holds how members of what has no type are used: the label comes after those of the other kids.
func TestDynamicMembers(t *testing.T) {
	holdMains(t, "class A{var x;}", `
		(1:?).f | Block ? [DynGet ? f 2 [Block ? [Cast int > ?, 1 [Int int 1]]]] | cast int > ?, get ? > ?
		(1:?).f.g | Block ? [DynGet ? g 3 [DynGet ? f 2 [Block ? [Cast int > ?, 1 [Int int 1]]]]] | cast int > ?, get ? > ?, get ? > ?
		(none A).x.x | Block ? [DynGet ? x 1 [Get ? x of A [None A]]] | get ? > ?
		(none A).x.f=2 | Block unit [DynPut unit f 2 [Get ? x of A [None A], Cast int > ?, 1 [Int int 2]]] | cast int > ?, put ? > ?
		(none A).x.f=(none A).x | Block unit [DynPut unit f 1 [Get ? x of A [None A], Get ? x of A [None A]]] | put ? > ?
		(none A).x.y.f=none A | Block unit [DynPut unit f 3 [DynGet ? y 1 [Get ? x of A [None A]], Cast A > ?, 2 [None A]]] | get ? > ?, cast A > ?, put ? > ?
		(none A).x.m() | Block ? [DynCall ? m 1 [Get ? x of A [None A]]] | call ? > ?
		(none A).x.m(1,(none A).x,()) | Block ? [DynCall ? m 3 [Get ? x of A [None A], Cast int > ?, 1 [Int int 1], Get ? x of A [None A], Cast unit > ?, 2 [Unit unit]]] | cast int > ?, cast unit > ?, call ? > ?
		(none A).x.m((none A).x.n(1)+1,2) | Block ? [DynCall ? m 6 [Get ? x of A [None A], Cast int > ?, 4 [Bin int + [Cast ? > int, 3 [DynCall ? n 2 [Get ? x of A [None A], Cast int > ?, 1 [Int int 1]]], Int int 1]], Cast int > ?, 5 [Int int 2]]] | cast int > ?, call ? > ?, cast ? > int, cast int > ?, cast int > ?, call ? > ?
		(none A).x.m(1,2,3,4,5,6,7,8).f(true) | Block ? [DynCall ? f 11 [DynCall ? m 9 [Get ? x of A [None A], Cast int > ?, 1 [Int int 1], Cast int > ?, 2 [Int int 2], Cast int > ?, 3 [Int int 3], Cast int > ?, 4 [Int int 4], Cast int > ?, 5 [Int int 5], Cast int > ?, 6 [Int int 6], Cast int > ?, 7 [Int int 7], Cast int > ?, 8 [Int int 8]], Cast bool > ?, 10 [Bool bool 1]]] | cast int > ?, cast int > ?, cast int > ?, cast int > ?, cast int > ?, cast int > ?, cast int > ?, cast int > ?, call ? > ?, cast bool > ?, call ? > ?
	`)
	holdFaults(t, "class A{var x;}", `
		(none A).x.f=y | 6 4
		(none A).x.m(1,y) | 6 5
		(none A).x.f.y=1+true | 7 5
		(y:?).f | 6 3
	`)
}

const line = "class A{def m(a:int,b):int{a}def k():unit{}}class B:A{}class C:B{def m(x:int,y):int{super.m(x,y)}def j():unit{super.k()}}"

// TestSuper holds the calls of a superclass's methods.
func TestSuper(t *testing.T) {
	hold(t, line+"main{}", "", "A.m(int ?) Block int [Var int 0]", "A.k() Block unit", "C.m(int ?) Block int [Super int m of B [Var int 0, Var ? 1]]", "C.j() Block unit [Super unit k of B]", ".main() Block unit")
	hold(t, "class A{def m(a:int,b):int{a}}class B:A{def m(a:int,b):int{super.m(b,a)}}main{}", "cast ? > int, cast int > ?",
		"A.m(int ?) Block int [Var int 0]", "B.m(int ?) Block int [Super int m of A [Cast ? > int, 1 [Var ? 1], Cast int > ?, 2 [Var int 0]]]", ".main() Block unit")
	// Each kid is brought directly after it, ahead of the kids that follow.
	hold(t, "class A{def m(a,b){a}}class B:A{def k(a){super.m(1,a.f)}def l(a){super.m(-a,-a)}}main{}", "cast int > ?, get ? > ?, cast ? > int, cast int > ?, cast ? > int, cast int > ?",
		"A.m(? ?) Block ? [Var ? 0]", "B.k(?) Block ? [Super ? m of A [Cast int > ?, 1 [Int int 1], DynGet ? f 2 [Var ? 0]]]",
		"B.l(?) Block ? [Super ? m of A [Cast int > ?, 4 [Un int - [Cast ? > int, 3 [Var ? 0]]], Cast int > ?, 6 [Un int - [Cast ? > int, 5 [Var ? 0]]]]]", ".main() Block unit")
	for _, x := range []struct {
		in, use string
		err     api.Errno
		at      int
	}{
		{"A", "super.q()", 6, 0}, {"A", "super.q(x)", 6, 0}, {"B", "super.z()", 6, 0}, {"B", "super.own()", 6, 0}, {"B", "super.f()", 6, 0}, {"B", "super.f(1)", 6, 0},
		{"B", "super.m()", 7, 0}, {"B", "super.m(x)", 7, 0}, {"B", "super.m(1,2,3)", 7, 0}, {"B", "super.k(1)", 7, 0}, {"B", "super.m(\"\",2)", 7, 1}, {"B", "super.m(1,x)", 6, 2},
	} {
		before, rest := "class A{var f;def m(a:int,b):int{a}def k():unit{}", "}class B:A{def own():unit{}"
		source := before + "def q():unit{" + x.use + "}" + rest + "}main{}"
		at := 12
		if x.in == "B" {
			source, at = before+rest+"def q():unit{"+x.use+"}}main{}", 15
		}
		holdFault(t, parsed(t, source), source, x.err, at+x.at)
	}
	holdFaults(t, line, `
		super.m(1,2) | 6 1
		super.k() | 6 1
		super.q(x) | 6 1
	`)
}

// TestNew holds how objects are made.
func TestNew(t *testing.T) {
	const classes = "class A{var f;def init(a:int,b):unit{}}class B:A{}class C{var init;}class D{def init():str{\"\"}def m(a){a}}class E:D{}class F{var x;def made(a:int):unit{}}"
	holdMains(t, classes, `
		new A(1,2) | Block A [New A [Int int 1, Cast int > ?, 1 [Int int 2]]] | cast int > ?
		new B((1:?),2) | Block B [New B [Cast ? > int, 2 [Block ? [Cast int > ?, 1 [Int int 1]]], Cast int > ?, 3 [Int int 2]]] | cast int > ?, cast ? > int, cast int > ?
		new A(1,(none C).init) | Block A [New A [Int int 1, Get ? init of C [None C]]]
		new C() | Block C [New C]
		new D() | Block D [New D]
		new E() | Block E [New E]
		new F() | Block F [New F]
		new A(-(none A).f,-(none A).f) | Block A [New A [Un int - [Cast ? > int, 1 [Get ? f of A [None A]]], Cast int > ?, 3 [Un int - [Cast ? > int, 2 [Get ? f of A [None A]]]]]] | cast ? > int, cast ? > int, cast int > ?
		new A((none A).f,(none A).f.g) | Block A [New A [Cast ? > int, 1 [Get ? f of A [None A]], DynGet ? g 2 [Get ? f of A [None A]]]] | cast ? > int, get ? > ?
	`)
	holdFaults(t, classes, `
		new G() | 6 1
		new G(x) | 6 1
		new A() | 7 1
		new A(1) | 7 1
		new B(1,2,x) | 7 1
		new C(1) | 7 1
		new C(x) | 7 1
		new D(1) | 7 1
		new E(x) | 7 1
		new F(1) | 7 1
		new A("",2) | 7 2
		new A(1,x) | 6 3
		new A("",x) | 7 2
		new A(new A(1),2) | 7 2
	`)
}

// TestChoices holds the types of ifs.
func TestChoices(t *testing.T) {
	const classes = "class A{}class B:A{}class C:A{}class D:B{}class X{}"
	holdMains(t, classes, `
		if true{1}else{2} | Block int [If int [Bool bool 1, Block int [Int int 1], Block int [Int int 2]]]
		if true{}else{} | Block unit [If unit [Bool bool 1, Block unit, Block unit]]
		if true{}else{1;()} | Block unit [If unit [Bool bool 1, Block unit, Block unit [Int int 1, Unit unit]]]
		if true{none A}else{none A} | Block A [If A [Bool bool 1, Block A [None A], Block A [None A]]]
		if true{none B}else{none C} | Block A [If A [Bool bool 1, Block B [None B], Block C [None C]]]
		if true{none A}else{none D} | Block A [If A [Bool bool 1, Block A [None A], Block D [None D]]]
		if true{none D}else{none B} | Block B [If B [Bool bool 1, Block D [None D], Block B [None B]]]
		if true{none C}else{none D} | Block A [If A [Bool bool 1, Block C [None C], Block D [None D]]]
		if true{none A}else{none X} | Block ? [If ? [Bool bool 1, Cast A > ?, 1 [Block A [None A]], Cast X > ?, 2 [Block X [None X]]]] | cast A > ?, cast X > ?
		if true{1}else{} | Block ? [If ? [Bool bool 1, Cast int > ?, 1 [Block int [Int int 1]], Cast unit > ?, 2 [Block unit]]] | cast int > ?, cast unit > ?
		if true{1}else{1r} | Block ? [If ? [Bool bool 1, Cast int > ?, 1 [Block int [Int int 1]], Cast real > ?, 2 [Block real [Real real 1]]]] | cast int > ?, cast real > ?
		if true{none A}else{1} | Block ? [If ? [Bool bool 1, Cast A > ?, 1 [Block A [None A]], Cast int > ?, 2 [Block int [Int int 1]]]] | cast A > ?, cast int > ?
		if true{(1:?)}else{2} | Block ? [If ? [Bool bool 1, Block ? [Block ? [Cast int > ?, 1 [Int int 1]]], Cast int > ?, 2 [Block int [Int int 2]]]] | cast int > ?, cast int > ?
		if true{2}else{(1:?)} | Block ? [If ? [Bool bool 1, Cast int > ?, 2 [Block int [Int int 2]], Block ? [Block ? [Cast int > ?, 1 [Int int 1]]]]] | cast int > ?, cast int > ?
		if true{(1:?)}else{("":?)} | Block ? [If ? [Bool bool 1, Block ? [Block ? [Cast int > ?, 1 [Int int 1]]], Block ? [Block ? [Cast str > ?, 2 [Str str ""]]]]] | cast int > ?, cast str > ?
		if (true:?){1}else{(none B:?)} | Block ? [If ? [Cast ? > bool, 2 [Block ? [Cast bool > ?, 1 [Bool bool 1]]], Cast int > ?, 4 [Block int [Int int 1]], Block ? [Block ? [Cast B > ?, 3 [None B]]]]] | cast bool > ?, cast ? > bool, cast B > ?, cast int > ?
		if true{if true{1}else{}}else{2} | Block ? [If ? [Bool bool 1, Block ? [If ? [Bool bool 1, Cast int > ?, 1 [Block int [Int int 1]], Cast unit > ?, 2 [Block unit]]], Cast int > ?, 3 [Block int [Int int 2]]]] | cast int > ?, cast unit > ?, cast int > ?
	`)
	holdFaults(t, classes, `
		if 1{}else{} | 7 2
		if (){}else{x} | 7 2
		if none A{}else{} | 7 2
		if x{}else{} | 6 2
		if true{1+""}else{} | 7 4
		if true{1}else{1+""} | 7 6
		(if true{none B}else{none C}).x | 6 1
		(if true{1}else{2}).x | 7 1
	`)
	holdMains(t, classes, `
		(if true{1}else{""}).x | Block ? [DynGet ? x 3 [If ? [Bool bool 1, Cast int > ?, 1 [Block int [Int int 1]], Cast str > ?, 2 [Block str [Str str ""]]]]] | cast int > ?, cast str > ?, get ? > ?
	`)
}

const dyn = "class D{var q;}"

// TestOperations holds the operations with one operand, and those with two.
func TestOperations(t *testing.T) {
	holdMains(t, dyn, `
		-1 | Block int [Un int - [Int int 1]]
		-1r | Block real [Un real - [Real real 1]]
		!true | Block bool [Un bool ! [Bool bool 1]]
		-(none D).q | Block int [Un int - [Cast ? > int, 1 [Get ? q of D [None D]]]] | cast ? > int
		!(none D).q | Block bool [Un bool ! [Cast ? > bool, 1 [Get ? q of D [None D]]]] | cast ? > bool
		real(1) | Block real [Conv real real [Int int 1]]
		int(1r) | Block int [Conv int int [Real real 1]]
		len("a") | Block int [Conv int len [Str str "a"]]
		real((none D).q) | Block real [Conv real real [Cast ? > int, 1 [Get ? q of D [None D]]]] | cast ? > int
		int((none D).q) | Block int [Conv int int [Cast ? > real, 1 [Get ? q of D [None D]]]] | cast ? > real
		len((none D).q) | Block int [Conv int len [Cast ? > str, 1 [Get ? q of D [None D]]]] | cast ? > str
		1+2 | Block int [Bin int + [Int int 1, Int int 2]]
		1r-2r | Block real [Bin real - [Real real 1, Real real 2]]
		"a"+"b" | Block str [Bin str + [Str str "a", Str str "b"]]
		1*2/3%4 | Block int [Bin int % [Bin int / [Bin int * [Int int 1, Int int 2], Int int 3], Int int 4]]
		1<2 | Block bool [Bin bool < [Int int 1, Int int 2]]
		1r<=2r | Block bool [Bin bool <= [Real real 1, Real real 2]]
		1==2 | Block bool [Bin bool == [Int int 1, Int int 2]]
		1=="" | Block bool [Bin bool == [Int int 1, Str str ""]]
		none D!=(none D).q | Block bool [Bin bool != [None D, Get ? q of D [None D]]]
		(none D).q==(none D).q | Block bool [Bin bool == [Get ? q of D [None D], Get ? q of D [None D]]]
		1+(none D).q | Block int [Bin int + [Int int 1, Cast ? > int, 1 [Get ? q of D [None D]]]] | cast ? > int
		(none D).q+"" | Block str [Bin str + [Cast ? > str, 1 [Get ? q of D [None D]], Str str ""]] | cast ? > str
		(none D).q<2r | Block bool [Bin bool < [Cast ? > real, 1 [Get ? q of D [None D]], Real real 2]] | cast ? > real
		(none D).q%2 | Block int [Bin int % [Cast ? > int, 1 [Get ? q of D [None D]], Int int 2]] | cast ? > int
		(none D).q+(none D).q | Block ? [DynBin ? + 1 [Get ? q of D [None D], Get ? q of D [None D]]] | op ? > ?
		(none D).q%(none D).q | Block ? [DynBin ? % 1 [Get ? q of D [None D], Get ? q of D [None D]]] | op ? > ?
		(none D).q<(none D).q | Block bool [DynBin bool < 1 [Get ? q of D [None D], Get ? q of D [None D]]] | op ? > ?
		(none D).q<=(none D).q.f | Block bool [DynBin bool <= 2 [Get ? q of D [None D], DynGet ? f 1 [Get ? q of D [None D]]]] | get ? > ?, op ? > ?
		(none D).q+(none D).q+1 | Block int [Bin int + [Cast ? > int, 2 [DynBin ? + 1 [Get ? q of D [None D], Get ? q of D [None D]]], Int int 1]] | op ? > ?, cast ? > int
		-(none D).q+(1:?) | Block int [Bin int + [Un int - [Cast ? > int, 1 [Get ? q of D [None D]]], Cast ? > int, 3 [Block ? [Cast int > ?, 2 [Int int 1]]]]] | cast ? > int, cast int > ?, cast ? > int
	`)
	holdFaults(t, dyn, `
		!1 | 7 1
		-true | 7 1
		-"" | 7 1
		-none D | 7 1
		!() | 7 1
		real(1r) | 7 1
		int(1) | 7 1
		len(1) | 7 1
		len(()) | 7 1
		1+true | 7 1
		1+1r | 7 1
		""-"" | 7 1
		1r%1r | 7 1
		""<"" | 7 1
		()+() | 7 1
		none D+none D | 7 1
		(none D).q+true | 7 1
		true+(none D).q | 7 1
		(none D).q%1r | 7 1
		1==1+true | 7 3
	`)
}

// TestLogic holds that && and || become ifs.
func TestLogic(t *testing.T) {
	holdMains(t, dyn, `
		true&&false | Block bool [If bool [Bool bool 1, Block bool [Bool bool 0], Block bool [Bool bool 0]]]
		true||false | Block bool [If bool [Bool bool 1, Block bool [Bool bool 1], Block bool [Bool bool 0]]]
		false&&true | Block bool [If bool [Bool bool 0, Block bool [Bool bool 1], Block bool [Bool bool 0]]]
		false||true | Block bool [If bool [Bool bool 0, Block bool [Bool bool 1], Block bool [Bool bool 1]]]
		1<2&&2<1 | Block bool [If bool [Bin bool < [Int int 1, Int int 2], Block bool [Bin bool < [Int int 2, Int int 1]], Block bool [Bool bool 0]]]
		(none D).q&&true | Block bool [If bool [Cast ? > bool, 1 [Get ? q of D [None D]], Block bool [Bool bool 1], Block bool [Bool bool 0]]] | cast ? > bool
		true||(none D).q | Block bool [If bool [Bool bool 1, Block bool [Bool bool 1], Block bool [Cast ? > bool, 1 [Get ? q of D [None D]]]]] | cast ? > bool
		(none D).q&&(none D).q | Block bool [If bool [Cast ? > bool, 1 [Get ? q of D [None D]], Block bool [Cast ? > bool, 2 [Get ? q of D [None D]]], Block bool [Bool bool 0]]] | cast ? > bool, cast ? > bool
		(none D).q||(none D).q.f | Block bool [If bool [Cast ? > bool, 2 [Get ? q of D [None D]], Block bool [Bool bool 1], Block bool [Cast ? > bool, 3 [DynGet ? f 1 [Get ? q of D [None D]]]]]] | get ? > ?, cast ? > bool, cast ? > bool
		true&&false&&true | Block bool [If bool [If bool [Bool bool 1, Block bool [Bool bool 0], Block bool [Bool bool 0]], Block bool [Bool bool 1], Block bool [Bool bool 0]]]
		true||false&&true | Block bool [If bool [Bool bool 1, Block bool [Bool bool 1], Block bool [If bool [Bool bool 0, Block bool [Bool bool 1], Block bool [Bool bool 0]]]]]
		!(true||false) | Block bool [Un bool ! [If bool [Bool bool 1, Block bool [Bool bool 1], Block bool [Bool bool 0]]]]
	`)
	holdFaults(t, dyn, `
		1&&true | 7 1
		true&&1 | 7 1
		(none D).q||() | 7 1
		""||(none D).q | 7 1
		none D&&none D | 7 1
		true&&x | 6 3
		1&&x | 6 3
		true||(true&&1) | 7 3
	`)
}

// TestFaultOfWhatWasBrought holds that what cannot be brought is told at the place of the source's node, whatever it has become.
func TestFaultOfWhatWasBrought(t *testing.T) {
	holdFaults(t, "class A{var x:int;var q;def m(a:int):int{a}}", `
		let x:int=true&&false | 7 2
		let x:int=true||false | 7 2
		let x:int=(1:bool) | 7 3
		let x:int=(true:bool) | 7 2
		let x:int=if true{true}else{false} | 7 2
		let x:int=while true{} | 7 2
		let x:str=(none A).m(1) | 7 2
		(none A).m(print(1)) | 7 3
		(none A).m((none A).q<(none A).q) | 7 3
		(none A).x=(none A).q.f=1 | 7 3
		(none A).m(!(none A).q) | 7 3
		(none A).m(new A()) | 7 3
		(none A).m(1==1) | 7 3
	`)
}

// TestExamples holds the examples of the chapter, and those of the document that are about elaboration.
func TestExamples(t *testing.T) {
	hold(t, "main{}", "", ".main() Block unit")
	hold(t, "main{let x=1}", "cast int > ?", ".main(?) Block unit [Let unit 0 [Cast int > ?, 1 [Int int 1]]]")
	hold(t, "main{1+(2:?)}", "cast int > ?, cast ? > int", ".main() Block int [Bin int + [Int int 1, Cast ? > int, 2 [Block ? [Cast int > ?, 1 [Int int 2]]]]]")
	hold(t, "main{(():?).f}", "cast unit > ?, get ? > ?", ".main() Block ? [DynGet ? f 2 [Block ? [Cast unit > ?, 1 [Unit unit]]]]")
	hold(t, "main{let x=1;x+\"a\"}", "cast int > ?, cast ? > str", ".main(?) Block str [Let unit 0 [Cast int > ?, 1 [Int int 1]], Bin str + [Cast ? > str, 2 [Var ? 0], Str str \"a\"]]")
	hold(t, "class C{def m(a:int):?{a}} main{let c=new C();c.m(\"\")}", "cast int > ?, cast C > ?, cast str > ?, call ? > ?",
		"C.m(int) Cast int > ?, 1 [Block int [Var int 0]]", ".main(?) Block ? [Let unit 0 [Cast C > ?, 2 [New C]], DynCall ? m 4 [Var ? 0, Cast str > ?, 3 [Str str \"\"]]]")
	hold(t, "class A{def m():?{\"s\"}} class B{def m():int{1}} main{let b:B=new A();b.m()}", "cast str > ?, cast A > B",
		"A.m() Cast str > ?, 1 [Block str [Str str \"s\"]]", "B.m() Block int [Int int 1]", ".main(B) Block int [Let unit 0 [Cast A > B, 2 [New A]], Call int m of B [Var B 0]]")
	holdFaults(t, "", `
		x | 6 1
		this | 6 1
		!1 | 7 1
		let x:int="" | 7 2
	`)
}

// manySites returns an expression with almost as many sites as nodes: calls within calls of what has no type.
func manySites(depth int) api.Node {
	kids := []api.Node{name("x")}
	for range 8 {
		if depth == 0 {
			kids = append(kids, un("-", name("x")))
		} else {
			kids = append(kids, un("-", manySites(depth-1)))
		}
	}
	return call("m", kids...)
}

// TestManySites holds the labels of a program that has thousands of sites.
func TestManySites(t *testing.T) {
	n := prog(block(let("x", "?", whole(1)), manySites(2), manySites(2), manySites(2), manySites(1), manySites(1), manySites(1), manySites(1), manySites(1), manySites(1)))
	p, f := elab.Elab(n)
	// Each call has a site of its own, and two for each - within it.
	calls, minuses := 0, 0
	visit(&n, func(x *api.Node) {
		switch x.Kind {
		case api.KindCall:
			calls++
		case api.KindUn:
			minuses++
		}
	})
	if want := 1 + calls + 2*minuses; f != (api.Fault{}) || len(p.Sites) != want || want < 4600 {
		t.Fatalf("%v: %d sites, and not %d", f, len(p.Sites), want)
	}
	if s := p.Sites[len(p.Sites)-1]; s != (api.Site{What: 4, From: "?", To: "?"}) || p.Bodies[0].Code.Kids[9].N != len(p.Sites) {
		t.Errorf("%v, %d", s, p.Bodies[0].Code.Kids[9].N)
	}
}

// memory

// roomy is a tree of which each list has room for more, with nodes there that are marked.
func roomy(n api.Node) api.Node {
	kids := make([]api.Node, len(n.Kids), len(n.Kids)+2)
	for i, k := range n.Kids {
		kids[i] = roomy(k)
	}
	for i := range 2 {
		kids[:cap(kids)][len(kids)+i] = node(99, "spare", "spare")
	}
	n.Kids = kids
	return n
}

// wholeText writes a tree with all that its lists have room for.
func wholeText(n api.Node) string {
	s := fmt.Sprint(n.Kind, n.Text, n.Type, n.From, n.N, len(n.Kids), "[")
	for _, k := range n.Kids[:cap(n.Kids)] {
		s += wholeText(k) + ","
	}
	return s + "]"
}

// marks writes a mark of its own into each place of each list of a program, and reports whether all remain.
func marks(p api.Prog) bool {
	count, right := 0, true
	var checks []func()
	mark := func(set func(n int), get func() int) {
		count++
		own := count
		set(own)
		checks = append(checks, func() { right = right && get() == own })
	}
	markText := func(s *string) {
		mark(func(n int) { *s = strconv.Itoa(n) }, func() int { n, _ := strconv.Atoi(*s); return n })
	}
	var markNodes func(l []api.Node)
	markNodes = func(l []api.Node) {
		l = l[:cap(l)]
		for i := range l {
			mark(func(n int) { l[i].N = n }, func() int { return l[i].N })
			markNodes(l[i].Kids)
		}
	}
	markVars := func(l []api.Var) {
		l = l[:cap(l)]
		for i := range l {
			markText(&l[i].Name)
		}
	}
	classes, bodies, sites := p.Table[:cap(p.Table)], p.Bodies[:cap(p.Bodies)], p.Sites[:cap(p.Sites)]
	for i := range classes {
		markText(&classes[i].Name)
		markVars(classes[i].Fields)
		methods := classes[i].Methods[:cap(classes[i].Methods)]
		for k := range methods {
			markText(&methods[k].Name)
			markVars(methods[k].Params)
		}
	}
	for i := range bodies {
		markText(&bodies[i].Name)
		locals := bodies[i].Locals[:cap(bodies[i].Locals)]
		for k := range locals {
			markText(&locals[k])
		}
		markNodes(bodies[i].Code.Kids)
	}
	for i := range sites {
		mark(func(n int) { sites[i].What = n }, func() int { return sites[i].What })
	}
	for _, check := range checks {
		check()
	}
	return right
}

// holdMemory holds that a call changes no argument, neither itself nor by what is done to its result, and that no two lists of a result share anything.
func holdMemory(t *testing.T, n api.Node) {
	t.Helper()
	n = roomy(n)
	before := wholeText(n)
	p, f := elab.Elab(n)
	first := tell(p)
	again, _ := elab.Elab(n)
	l := elab.Table(n)
	if !marks(p) || !marks(api.Prog{Table: l}) {
		t.Errorf("%s: two lists of a result share something", short(first))
	}
	if wholeText(n) != before {
		t.Errorf("%s: an argument is changed", short(first))
	}
	if tell(again) != first {
		t.Errorf("%s: another result is changed, or not the same: %s", short(first), short(tell(again)))
	}
	if q, g := elab.Elab(n); f != g || tell(q) != first {
		t.Errorf("%s: another time %v, %s", short(first), g, short(tell(q)))
	}
}

// samples are sources with all kinds of nodes.
func samples() []string {
	return []string{
		"main{}",
		members + "main{(none A).y=(none A).m(1,2)==\"\"}",
		members + "main{let x=new B();let y:C=new A();x.m(1,x.f=y,-x);y.m(1,2r);if x{x+x}else{while x&&x||!x{print(len(x))}}}",
		line + "main{let a:A=new C();a.m(read(),int(nan)%3)}",
		"class A{def init(a,b:int):unit{let c=a;b=c}}class B:A{def init(a,b:int):unit{super.init(b,a)}}main{new B(1,2)==(none A:?)}",
	}
}

func TestMemory(t *testing.T) {
	for _, s := range samples() {
		holdMemory(t, parsed(t, s))
	}
	for what, n := range invalid() {
		// That one can't be copied.
		if what != "of itself" {
			holdMemory(t, n)
		}
	}
}

// TestTogether holds that calls at the same time, of the same trees, do not disturb each other.
func TestTogether(t *testing.T) {
	var all sync.WaitGroup
	for _, s := range samples() {
		n := parsed(t, s)
		p, f := elab.Elab(n)
		want, l := tell(p), fmt.Sprint(elab.Table(n))
		for range 4 {
			all.Go(func() {
				for range 50 {
					if p, g := elab.Elab(n); g != f || tell(p) != want || fmt.Sprint(elab.Table(n)) != l {
						t.Errorf("%s: %v, %s", s, g, tell(p))
					}
				}
			})
		}
	}
	all.Wait()
}

// TestManyCasts holds a table of many classes that go to one another, and a program that casts each to each.
func TestManyCasts(t *testing.T) {
	const count = 30
	var classes []api.Node
	for i := range count {
		next := "C" + strconv.Itoa((i+1)%count)
		classes = append(classes, node(2, "C"+strconv.Itoa(i), "", node(3, "next", next), node(4, "m", "?", node(5, "a", next), block(name("a")))))
	}
	var entries []api.Node
	for i := range count {
		for k := range count {
			entries = append(entries, as("C"+strconv.Itoa(k), none("C"+strconv.Itoa(i))))
		}
	}
	n := prog(append(classes, block(entries...))...)
	p, f := elab.Elab(n)
	if f != (api.Fault{}) || table.Check(p.Table) != (api.Fault{}) || len(p.Sites) != count*count {
		t.Fatalf("%v, %d sites", f, len(p.Sites))
	}
	at := count
	for i := range count {
		for k := range count {
			if i == k {
				continue
			}
			if want := (api.Site{What: 1, From: "C" + strconv.Itoa(i), To: "C" + strconv.Itoa(k)}); p.Sites[at] != want {
				t.Fatalf("%v, and not %v", p.Sites[at], want)
			}
			at++
		}
	}
}
