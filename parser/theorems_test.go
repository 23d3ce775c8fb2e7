package parser_test

import (
	"math/rand"
	"slices"
	"strconv"
	"strings"
	"testing"

	"chaperon/api"
	"chaperon/lexer"
	"chaperon/parser"
	"chaperon/tree"
)

// P13.2

// glue returns tokens with as few blanks between as they need.
func glue(l []string) string {
	var all strings.Builder
	for i, x := range l {
		if i > 0 {
			two, f := lexer.Lex([]byte(l[i-1] + x))
			if f != (api.Fault{}) || len(two) != 2 || two[1].At != len(l[i-1]) {
				all.WriteString(" ")
			}
		}
		all.WriteString(x)
	}
	return all.String()
}

// places returns where the tokens of a source begin, and at last its length.
func places(t *testing.T, s string) []int {
	t.Helper()
	l, f := lexer.Lex([]byte(s))
	if f != (api.Fault{}) {
		t.Fatalf("%s: %v", short(s), f)
	}
	var all []int
	for _, x := range l {
		all = append(all, x.At)
	}
	return append(all, len(s))
}

// holdBlanks holds that blanks change only the place of a fault: it stays at its token.
func holdBlanks(t *testing.T, m maker, l []string) {
	t.Helper()
	first := glue(l)
	n, f := parser.Parse([]byte(first))
	token := slices.Index(places(t, first), f.At)
	for _, s := range []string{strings.Join(l, " "), "\n\t" + m.join(l), m.join(l) + "// the end", strings.Join(l, "\n//}\n"), strings.Join(l, "\r")} {
		want := f
		if f.Err == api.ErrForm {
			want.At = places(t, s)[token]
		}
		if x, g := parser.Parse([]byte(s)); g != want || !equal(x, n) {
			t.Fatalf("%s: %s %v, and not %s %v, as of %s", short(s), show(x), g, show(n), want, short(first))
		}
	}
}

func TestBlanksChangeNothing(t *testing.T) {
	t.Parallel()
	all := samples()
	made(1500, func(m maker, c *chart, l []string) {
		holdBlanks(t, m, l)
		i := m.r.Intn(len(l))
		holdBlanks(t, m, l[:i])
		holdBlanks(t, m, slices.Delete(slices.Clone(l), i, i+1))
		holdBlanks(t, m, slices.Insert(slices.Clone(l), i, all[m.r.Intn(len(all))].text))
	})
}

// visit calls do with a piece and all of which it is made.
func (p piece) visit(do func(p piece)) {
	do(p)
	for _, x := range p.pieces {
		x.visit(do)
	}
}

// TestBracketsChangeNothing puts brackets around each piece of a program that is an expression, and a ; before the end of each block, or takes it away.
func TestBracketsChangeNothing(t *testing.T) {
	t.Parallel()
	brackets, ends := 0, 0
	made(400, func(m maker, c *chart, l []string) {
		s := strings.Join(l, " ")
		n, f := c.hold(t, s)
		if f != (api.Fault{}) {
			return
		}
		hold := func(changed []string) {
			s := strings.Join(changed, " ")
			if x, g := parser.Parse([]byte(s)); g != (api.Fault{}) || !equal(x, n) {
				t.Fatalf("%s: %s %v, and not %s", s, show(x), g, show(n))
			}
		}
		tokens, _ := lexer.Lex([]byte(s))
		c.program(t, tokens).visit(func(p piece) {
			switch p.sort {
			case "expr", "place", "or", "and", "same", "less", "sum", "term", "unary", "post", "prim":
				brackets++
				hold(slices.Concat(l[:p.from], []string{"("}, l[p.from:p.to], []string{")"}, l[p.to:]))
				hold(slices.Concat(l[:p.from], []string{"(", "("}, l[p.from:p.to], []string{")", ")"}, l[p.to:]))
			case "block":
				end := p.to - 1
				switch l[end-1] {
				case "{":
				case ";":
					ends++
					hold(slices.Delete(slices.Clone(l), end-1, end))
				default:
					ends++
					hold(slices.Insert(slices.Clone(l), end, ";"))
				}
			}
		})
	})
	if brackets < 20000 || ends < 200 {
		t.Errorf("%d pieces, %d blocks", brackets, ends)
	}
}

// TestWhatFollows puts all sorts of tokens in the place of those behind the first one that is not allowed.
func TestWhatFollows(t *testing.T) {
	t.Parallel()
	all := samples()
	seen := 0
	made(1500, func(m maker, c *chart, l []string) {
		i := m.r.Intn(len(l))
		l = slices.Insert(slices.Clone(l), i, all[m.r.Intn(len(all))].text)
		s := strings.Join(l, " ")
		_, f := parser.Parse([]byte(s))
		end := slices.Index(places(t, s), f.At)
		if f.Err != api.ErrForm || end >= len(l) {
			return
		}
		seen++
		before := strings.Join(l[:end+1], " ")
		var after strings.Builder
		for range m.r.Intn(30) {
			after.WriteString(" " + all[m.r.Intn(len(all))].text)
		}
		for _, x := range []string{"", " ", after.String(), " ; }", " main { }", strings.Repeat(" class C { }", 50), strings.Repeat(" (", 5000)} {
			holdFault(t, before+x, f.Err, f.At)
		}
		if t.Failed() {
			t.FailNow()
		}
	})
	if seen < 1000 {
		t.Errorf("%d sources", seen)
	}
}

// text returns a text as it stands in a source.
func text(s string) string {
	return `"` + strings.NewReplacer(`\`, `\\`, `"`, `\"`, "\n", `\n`).Replace(s) + `"`
}

// typeTokens returns a type behind a :, or nothing if it may be omitted, by chance if it may be either.
func (m maker) typeTokens(typ, omitted string) []string {
	if typ == omitted && (omitted == "" || m.r.Intn(2) == 0) {
		return nil
	}
	return []string{":", typ}
}

// listTokens returns lists of tokens with a token between, if there is one.
func (m maker) listTokens(l []api.Node, between string, tokens func(n api.Node) []string) []string {
	var all []string
	for i, n := range l {
		if i > 0 && between != "" {
			all = append(all, between)
		}
		all = append(all, tokens(n)...)
	}
	return all
}

// tokens returns a source of a program, a class, a member, a parameter or a block.
func (m maker) tokens(n api.Node) []string {
	head := []string{n.Text}
	switch n.Kind {
	case api.KindProg:
		last := len(n.Kids) - 1
		return slices.Concat(m.listTokens(n.Kids[:last], "", m.tokens), []string{"main"}, m.tokens(n.Kids[last]))
	case api.KindClass:
		return slices.Concat([]string{"class", n.Text}, m.typeTokens(n.Type, ""), []string{"{"}, m.listTokens(n.Kids, "", m.tokens), []string{"}"})
	case api.KindField:
		return slices.Concat([]string{"var", n.Text}, m.typeTokens(n.Type, "?"), []string{";"})
	case api.KindMethod:
		last := len(n.Kids) - 1
		return slices.Concat([]string{"def", n.Text, "("}, m.listTokens(n.Kids[:last], ",", m.tokens), []string{")"}, m.typeTokens(n.Type, "?"), m.tokens(n.Kids[last]))
	case api.KindParam:
		return slices.Concat(head, m.typeTokens(n.Type, "?"))
	case api.KindLet:
		return slices.Concat([]string{"let", n.Text}, m.typeTokens(n.Type, "?"), []string{"="}, m.at(0, n.Kids[0]))
	case api.KindBlock:
		inside := m.listTokens(n.Kids, ";", m.tokens)
		if len(inside) > 0 && m.r.Intn(2) == 0 {
			inside = append(inside, ";")
		}
		return slices.Concat([]string{"{"}, inside, []string{"}"})
	}
	return m.at(0, n)
}

// at returns a source of an expression where it has to bind that much, in brackets if it does not, and sometimes if it does.
func (m maker) at(least int, n api.Node) []string {
	l := m.expr(n)
	if level(n) < least || m.r.Intn(8) == 0 {
		l = slices.Concat([]string{"("}, l, []string{")"})
	}
	return l
}

// level returns how much an expression binds.
func level(n api.Node) int {
	switch n.Kind {
	case api.KindSet, api.KindPut:
		return 0
	case api.KindUn:
		return 7
	case api.KindBin:
		for i, l := range operations() {
			if slices.Contains(l, n.Text) {
				return i + 1
			}
		}
	}
	return 8
}

// args returns a source of arguments.
func (m maker) args(l []api.Node) []string {
	return slices.Concat([]string{"("}, m.listTokens(l, ",", func(n api.Node) []string { return m.at(0, n) }), []string{")"})
}

// expr returns a source of an expression.
func (m maker) expr(n api.Node) []string {
	switch k := n.Kids; n.Kind {
	case api.KindInt:
		return []string{strconv.Itoa(n.N)}
	case api.KindReal:
		if n.Text == "" {
			return []string{strconv.Itoa(n.N) + "r"}
		}
		return []string{n.Text}
	case api.KindBool:
		return []string{[]string{"false", "true"}[n.N]}
	case api.KindStr:
		return []string{text(n.Text)}
	case api.KindUnit:
		return []string{"(", ")"}
	case api.KindNone:
		return []string{"none", n.Type}
	case api.KindThis:
		return []string{"this"}
	case api.KindSet:
		return slices.Concat(m.at(8, txt(api.KindVar, n.Text)), []string{"="}, m.at(0, k[0]))
	case api.KindGet:
		return slices.Concat(m.at(8, k[0]), []string{".", n.Text})
	case api.KindPut:
		return slices.Concat(m.at(8, get(n.Text, k[0])), []string{"="}, m.at(0, k[1]))
	case api.KindCall:
		return slices.Concat(m.at(8, k[0]), []string{".", n.Text}, m.args(k[1:]))
	case api.KindSuper:
		return slices.Concat([]string{"super", ".", n.Text}, m.args(k))
	case api.KindNew:
		return slices.Concat([]string{"new", n.Type}, m.args(k))
	case api.KindIf:
		return slices.Concat([]string{"if"}, m.at(0, k[0]), m.tokens(k[1]), []string{"else"}, m.tokens(k[2]))
	case api.KindWhile:
		return slices.Concat([]string{"while"}, m.at(0, k[0]), m.tokens(k[1]))
	case api.KindUn:
		return slices.Concat([]string{n.Text}, m.at(7, k[0]))
	case api.KindBin:
		return slices.Concat(m.at(level(n), k[0]), []string{n.Text}, m.at(level(n)+1, k[1]))
	case api.KindRead:
		return []string{"read", "(", ")"}
	case api.KindPrint:
		return slices.Concat([]string{"print"}, m.args(k))
	case api.KindAs:
		return slices.Concat([]string{"("}, m.at(0, k[0]), []string{":", n.Type, ")"})
	case api.KindConv:
		return slices.Concat([]string{n.Text}, m.args(k))
	}
	return []string{n.Text}
}

// node makes an expression by chance, of some size.
func (m maker) node(size int) api.Node {
	kinds := 29
	if size <= 1 {
		kinds = 14
	}
	some := func(least, most int) []api.Node {
		var l []api.Node
		count := least + m.r.Intn(most-least+1)
		for range count {
			l = append(l, m.node((size-1)/max(count, 1)))
		}
		return l
	}
	name, class, typ := m.token("name"), m.token("Class"), m.typ()
	switch kind := api.KindInt + m.r.Intn(kinds-api.KindInt+1); kind {
	case api.KindInt:
		return num(kind, []int{0, 1, 7, 1<<63 - 1}[m.r.Intn(4)])
	case api.KindReal:
		return []api.Node{num(kind, 0), num(kind, 1<<53), txt(kind, "nan"), txt(kind, "inf")}[m.r.Intn(4)]
	case api.KindBool:
		return num(kind, m.r.Intn(2))
	case api.KindStr:
		return txt(kind, m.of("", "a", "\n", `"`, `\`, "if", "( ", "//", strings.Repeat("~", 100)))
	case api.KindNone:
		return typed(kind, class)
	case api.KindVar:
		return txt(kind, name)
	case api.KindLet, api.KindSet, api.KindGet:
		return txt(api.KindSet+m.r.Intn(2), name, some(1, 1)...)
	case api.KindPut:
		return txt(kind, name, some(2, 2)...)
	case api.KindCall:
		return txt(kind, name, some(1, 9)...)
	case api.KindSuper:
		return txt(kind, name, some(0, 8)...)
	case api.KindNew:
		return typed(kind, class, some(0, 8)...)
	case api.KindIf:
		return ifOf(m.node(size/3), m.block(size/3), m.block(size/3))
	case api.KindWhile:
		return while(m.node(size/2), m.block(size/2))
	case api.KindUn:
		return txt(kind, m.of("-", "!"), some(1, 1)...)
	case api.KindBin:
		return txt(kind, m.of(slices.Concat(operations()...)...), some(2, 2)...)
	case api.KindPrint:
		return kid(kind, some(1, 1)...)
	case api.KindAs:
		return typed(kind, typ, some(1, 1)...)
	case api.KindConv:
		return txt(kind, m.of("real", "int", "len"), some(1, 1)...)
	default: // Unit, This, Read
		return kid(kind)
	}
}

func (m maker) typ() string {
	return m.of("int", "real", "bool", "str", "unit", "?", "?", m.token("Class"))
}

// block makes a block by chance, of some size.
func (m maker) block(size int) api.Node {
	n := block()
	for left := size; left > 0; {
		part := 1 + m.r.Intn(left)
		x := m.node(part)
		if m.r.Intn(4) == 0 {
			x = letOf(m.token("name"), m.typ(), x)
		}
		n.Kids = append(n.Kids, x)
		left -= part
	}
	return n
}

// prog makes a program by chance, of some size.
func (m maker) prog(size int) api.Node {
	n := prog()
	for range m.r.Intn(4) {
		of := ""
		if m.r.Intn(2) == 0 {
			of = m.token("Class")
		}
		x := class(m.token("Class"), of)
		for range m.r.Intn(4) {
			x.Kids = append(x.Kids, field(m.token("name"), m.typ()))
		}
		for range m.r.Intn(4) {
			y := method(m.token("name"), m.typ())
			for range m.r.Intn(9) {
				y.Kids = append(y.Kids, param(m.token("name"), m.typ()))
			}
			y.Kids = append(y.Kids, m.block(size/6))
			x.Kids = append(x.Kids, y)
		}
		n.Kids = append(n.Kids, x)
	}
	n.Kids = append(n.Kids, m.block(size))
	return n
}

// TestTreesHaveSources holds that a tree that is written as a source, with brackets that it needs and some that it does not, is parsed as that tree.
func TestTreesHaveSources(t *testing.T) {
	t.Parallel()
	m := maker{rand.New(rand.NewSource(15))}
	parsed, deep, nodes := 0, 0, 0
	kinds := map[int]int{}
	for i := range 6000 {
		n := m.prog(i % 211)
		s := m.join(m.tokens(n))
		want := api.Fault{Err: tree.Check(n).Err}
		x, f := parser.Parse([]byte(s))
		switch {
		case len(s) > 20000:
		case want.Err != api.OK:
			deep++
			holdFault(t, s, want.Err, 0)
		case f != (api.Fault{}) || !equal(x, n) || tree.Check(x) != (api.Fault{}):
			t.Fatalf("%s: %s %v, and not %s", short(s), show(x), f, show(n))
		default:
			parsed++
			nodes += tree.Count(n)
			for _, y := range preorder(x) {
				kinds[y.Kind]++
			}
		}
	}
	for kind := api.KindProg; kind <= api.KindConv; kind++ {
		if kinds[kind] < 500 {
			t.Errorf("%d nodes of the kind %d", kinds[kind], kind)
		}
	}
	if parsed < 5000 || nodes < 300000 {
		t.Errorf("%d trees of %d nodes, %d are too large or too deep", parsed, nodes, deep)
	}
}

// TestParsedAreValid holds that what is parsed is valid, of sources that are changed, too; and that all calls return the same again.
func TestParsedAreValid(t *testing.T) {
	t.Parallel()
	all := samples()
	parsed := 0
	made(3000, func(m maker, c *chart, l []string) {
		i := m.r.Intn(len(l))
		for _, changed := range [][]string{l, slices.Replace(slices.Clone(l), i, i+1, all[m.r.Intn(len(all))].text), slices.Repeat(l, 2)} {
			b := []byte(m.join(changed))
			n, f := parser.Parse(b)
			if f.Err == api.OK {
				parsed++
				if g := tree.Check(n); g != (api.Fault{}) || f.At != 0 {
					t.Fatalf("%s: %s %v %v", short(string(b)), show(n), f, g)
				}
			} else if !equal(n, api.Node{}) || f.Err != api.ErrForm && f.At != 0 {
				t.Fatalf("%s: %s %v", short(string(b)), show(n), f)
			}
			if x, g := parser.Parse(b); g != f || !equal(x, n) {
				t.Fatalf("%s: %s %v, and then %s %v", short(string(b)), show(n), f, show(x), g)
			}
		}
	})
	if parsed < 2500 {
		t.Errorf("%d sources", parsed)
	}
}
