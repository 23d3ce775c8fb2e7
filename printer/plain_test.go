package printer_test

import (
	"math/rand"
	"slices"
	"strconv"
	"strings"
	"testing"

	"chaperon/api"
	"chaperon/lexer"
	"chaperon/printer"
	"chaperon/tree"
)

// chapter is the chapter's table: the kind of a node, and its tokens. A number is the next kid at that level, own and above one at the node's own level and at the one above; kid is the next one as it is; kids are all from there on but the block that comes last, with what stands behind it between two; of and in are : and the type, if there is one, and if it is not ?.
const chapter = `
	1 kids main kid
	2 class Text of { kids }
	3 var Text in ;
	4 def Text ( kids, ) in kid
	5 Text in
	6 { kids; }
	15 let Text in = 0
	7 number
	8 real
	10 text
	9 truth
	11 ( )
	13 this
	12 none Type
	14 Text
	16 Text = 0
	18 8 . Text = 0
	17 8 . Text
	19 8 . Text ( kids, )
	20 super . Text ( kids, )
	21 new Type ( kids, )
	22 if 0 kid else kid
	23 while 0 kid
	24 Text 7
	25 own Text above
	26 read ( )
	27 print ( 0 )
	29 Text ( 0 )
	28 ( 0 : Type )
`

const (
	words = "class def var main let if else while new none this super read print true false nan inf int real bool str unit len"
	signs = "&& || == != <= { } ( ) : ; , . = < + - * / % ! ?"
)

// word is a token, and how it stands in a source.
type word struct {
	api.Token
	spelt string
}

// writer is a second reading of the chapter, that goes by its table; with a source of chance it also writes what may be there and need not.
type writer struct {
	rows map[int][]string
	r    *rand.Rand
}

func newWriter(r *rand.Rand) writer {
	w := writer{map[int][]string{}, r}
	for line := range strings.Lines(strings.TrimSpace(chapter)) {
		l := strings.Fields(line)
		kind, _ := strconv.Atoi(l[0])
		w.rows[kind] = l[1:]
	}
	return w
}

// may reports whether something is written that need not be: by chance, and never without a source of it.
func (w writer) may(one int) bool {
	return w.r != nil && w.r.Intn(one) == 0
}

// plainWord returns a word or a sign.
func plainWord(s string) word {
	kind := 7
	switch c := s[0]; {
	case slices.Contains(strings.Fields(words), s):
		kind = 3
	case 'a' <= c && c <= 'z':
		kind = 1
	case 'A' <= c && c <= 'Z':
		kind = 2
	}
	return word{api.Token{Kind: kind, Text: s}, s}
}

// plainWords returns words and signs.
func plainWords(l ...string) []word {
	var all []word
	for _, s := range l {
		all = append(all, plainWord(s))
	}
	return all
}

// quoted returns a text as it stands in a source.
func quoted(s string) string {
	return `"` + strings.NewReplacer(`\`, `\\`, `"`, `\"`, "\n", `\n`).Replace(s) + `"`
}

// level is a second reading of the levels.
func level(n api.Node) int {
	l := strings.Fields("|| && ==!= <<= +- */%")
	switch n.Kind {
	case 16, 18:
		return 0
	case 24:
		return 7
	case 25:
		for i, signs := range l {
			if n.Text != "" && n.Text != "=" && n.Text != "!" && strings.Contains(signs, n.Text) {
				return i + 1
			}
		}
		return 6
	}
	return 8
}

// leaf returns the token of a number, a real, a text, a bool.
func leaf(n api.Node) word {
	digits := strconv.Itoa(n.N)
	switch {
	case n.Kind == 7:
		return word{api.Token{Kind: 4, N: n.N}, digits}
	case n.Kind == 8 && n.Text == "":
		return word{api.Token{Kind: 5, N: n.N}, digits + "r"}
	case n.Kind == 10:
		return word{api.Token{Kind: 6, Text: n.Text}, quoted(n.Text)}
	case n.Kind == 9:
		return plainWord([]string{"false", "true"}[n.N])
	}
	return plainWord(n.Text)
}

// node returns the words of a tree.
func (w writer) node(n api.Node) []word {
	var l []word
	kids := n.Kids
	next := func(least int) {
		l = append(l, w.at(least, kids[0])...)
		kids = kids[1:]
	}
	for _, x := range w.rows[n.Kind] {
		switch x {
		case "kids", "kids,", "kids;":
			count := 0
			for count < len(kids) && kids[count].Kind != 6 {
				count++
			}
			l = append(l, w.kids(kids[:count], x[4:])...)
			kids = kids[count:]
		case "Text":
			if n.Kind == 16 && w.may(8) { // what is set may stand in brackets
				l = append(l, plainWords("(", n.Text, ")")...)
				continue
			}
			l = append(l, plainWord(n.Text))
		case "Type":
			l = append(l, plainWord(n.Type))
		case "of", "in":
			if n.Type != "" && (x == "of" || n.Type != "?" || w.may(2)) {
				l = append(l, plainWords(":", n.Type)...)
			}
		case "0", "7", "8":
			next(int(x[0] - '0'))
		case "own":
			next(level(n))
		case "above":
			next(level(n) + 1)
		case "kid":
			l = append(l, w.node(kids[0])...)
			kids = kids[1:]
		case "number", "real", "text", "truth":
			l = append(l, leaf(n))
		default:
			l = append(l, plainWord(x))
		}
	}
	return l
}

// kids returns the words of nodes with a sign between two, if there is one; an expression is at level 0.
func (w writer) kids(l []api.Node, between string) []word {
	var all []word
	for i, n := range l {
		if i > 0 && between != "" {
			all = append(all, plainWord(between))
		}
		all = append(all, w.at(0, n)...)
	}
	if between == ";" && len(l) > 0 && w.may(2) {
		all = append(all, plainWord(";"))
	}
	return all
}

// at returns the words of an expression at a level, or of what is none.
func (w writer) at(least int, n api.Node) []word {
	l := w.node(n)
	isExpr := n.Kind >= 7 && n.Kind != 15
	if isExpr && level(n) < least || isExpr && w.may(8) {
		return slices.Concat(plainWords("("), l, plainWords(")"))
	}
	return l
}

// source returns words as a source.
func source(l []word) string {
	var all []string
	for _, x := range l {
		all = append(all, x.spelt)
	}
	return strings.Join(all, " ")
}

// hold holds what is printed of a valid tree against the second reading, and returns it.
func (w writer) hold(t *testing.T, n api.Node) (string, []api.Token) {
	t.Helper()
	all := w.node(n)
	want, wrong := source(all), api.Fault{}
	if len(want) > 20000 {
		want, wrong = "", api.Fault{Err: api.ErrLong}
	}
	s, f := printer.Print(n)
	if s != want || f != wrong {
		t.Fatalf("%s: %s %v, and not %s %v", show(n), short(s), f, short(want), wrong)
	}
	l, f := printer.Tokens(n)
	if f != (api.Fault{}) || len(l) != len(all) {
		t.Fatalf("%s: %d tokens, %v, and not %d", show(n), len(l), f, len(all))
	}
	for i, x := range l {
		if x != all[i].Token {
			t.Fatalf("%s: the token %d is %v, and not %v", show(n), i, x, all[i].Token)
		}
	}
	return s, l
}

// TestChapter holds that the second reading has a row for each kind, and that its signs and words are those of the lexer.
func TestChapter(t *testing.T) {
	w := newWriter(nil)
	for kind := 1; kind <= 29; kind++ {
		if len(w.rows[kind]) == 0 {
			t.Errorf("no row for the kind %d", kind)
		}
	}
	for s := range strings.FieldsSeq(words + " " + signs + " x Cat2") {
		if l, f := lexer.Lex([]byte(s)); f != (api.Fault{}) || len(l) != 1 || l[0] != plainWord(s).Token {
			t.Errorf("%s: %v %v", s, l, f)
		}
	}
}

// heads returns ways to make an expression of as many others as they tell, those of each level among them.
func heads() map[int][]func(l []api.Node) api.Node {
	all := map[int][]func(l []api.Node) api.Node{}
	add := func(count, kind int, text, typ string) {
		all[count] = append(all[count], func(l []api.Node) api.Node {
			return api.Node{Kind: kind, Text: text, Type: typ, Kids: slices.Clone(l)}
		})
	}
	add(0, api.KindVar, "x", "")
	add(0, api.KindUnit, "", "")
	add(1, api.KindSet, "x", "")
	add(1, api.KindGet, "f", "")
	add(1, api.KindCall, "f", "")
	add(1, api.KindUn, "-", "")
	add(1, api.KindAs, "", "?")
	add(1, api.KindPrint, "", "")
	add(2, api.KindPut, "f", "")
	add(2, api.KindCall, "f", "")
	for s := range strings.FieldsSeq("|| && == < - *") {
		add(2, api.KindBin, s, "")
	}
	return all
}

// exprs returns all expressions of these heads that are so deep.
func exprs(depth int) []api.Node {
	if depth == 0 {
		return nil
	}
	below := exprs(depth - 1)
	var l []api.Node
	by := heads()
	for _, make := range by[0] {
		l = append(l, make(nil))
	}
	for _, make := range by[1] {
		for _, x := range below {
			l = append(l, make([]api.Node{x}))
		}
	}
	for _, make := range by[2] {
		for _, x := range below {
			for _, y := range below {
				l = append(l, make([]api.Node{x, y}))
			}
		}
	}
	return l
}

// TestAllSmall holds what is printed of all small expressions.
func TestAllSmall(t *testing.T) {
	t.Parallel()
	w := newWriter(nil)
	l := exprs(3)
	if len(l) < 15000 {
		t.Errorf("%d expressions", len(l))
	}
	for _, x := range l {
		w.hold(t, prog(block(x)))
	}
}

// maker makes trees by chance.
type maker struct{ r *rand.Rand }

func (m maker) of(l ...string) string { return l[m.r.Intn(len(l))] }

func (m maker) name() string {
	return m.of("a", "b", "x", "x1Y", "nothing", "int2", "r", "classA", strings.Repeat("z", 20))
}

func (m maker) class() string { return m.of("A", "B", "Cat2", "If", "Int", strings.Repeat("Z", 20)) }

func (m maker) typ() string {
	return m.of("int", "real", "bool", "str", "unit", "?", "?", m.class())
}

// some makes expressions by chance, from so many to so many.
func (m maker) some(size, least, most int) []api.Node {
	var l []api.Node
	count := least + m.r.Intn(most-least+1)
	for range count {
		l = append(l, m.expr((size-1)/max(count, 1)))
	}
	return l
}

// leaf makes an expression of one node by chance.
func (m maker) leaf() api.Node {
	l := []api.Node{
		num(api.KindInt, []int{0, 1, 7, 1<<63 - 1, m.r.Int()}[m.r.Intn(5)]),
		num(api.KindReal, []int{0, 1 << 53, m.r.Intn(1 << 53)}[m.r.Intn(3)]),
		txt(api.KindReal, m.of("nan", "inf")),
		num(api.KindBool, m.r.Intn(2)),
		txt(api.KindStr, m.of("", "a", "\n", `"`, `\`, "n", "if", "( ", "//", `\n`, strings.Repeat("~", 100))),
		kid(api.KindUnit),
		kid(api.KindThis),
		kid(api.KindRead),
		typed(api.KindNone, m.class()),
		txt(api.KindVar, m.name()),
	}
	return l[m.r.Intn(len(l))]
}

// expr makes an expression by chance, of some size.
func (m maker) expr(size int) api.Node {
	if size <= 1 {
		return m.leaf()
	}
	switch m.r.Intn(16) {
	case 0, 1:
		return txt(api.KindSet, m.name(), m.some(size, 1, 1)...)
	case 2:
		return txt(api.KindGet, m.name(), m.some(size, 1, 1)...)
	case 3, 4:
		return txt(api.KindPut, m.name(), m.some(size, 2, 2)...)
	case 5:
		return txt(api.KindCall, m.name(), m.some(size, 1, 9)...)
	case 6:
		return txt(api.KindSuper, m.name(), m.some(size, 0, 8)...)
	case 7:
		return typed(api.KindNew, m.class(), m.some(size, 0, 8)...)
	case 8:
		return ifOf(m.expr(size/3), m.block(size/3), m.block(size/3))
	case 9:
		return while(m.expr(size/2), m.block(size/2))
	case 10:
		return txt(api.KindUn, m.of("-", "!"), m.some(size, 1, 1)...)
	case 11:
		return kid(api.KindPrint, m.some(size, 1, 1)...)
	case 12:
		return typed(api.KindAs, m.typ(), m.some(size, 1, 1)...)
	case 13:
		return txt(api.KindConv, m.of("real", "int", "len"), m.some(size, 1, 1)...)
	}
	return txt(api.KindBin, m.of("||", "&&", "==", "!=", "<", "<=", "+", "-", "*", "/", "%"), m.some(size, 2, 2)...)
}

// block makes a block by chance, of some size.
func (m maker) block(size int) api.Node {
	n := block()
	for left := size; left > 0; {
		part := 1 + m.r.Intn(left)
		x := m.expr(part)
		if m.r.Intn(4) == 0 {
			x = letOf(m.name(), m.typ(), x)
		}
		n.Kids = append(n.Kids, x)
		left -= part
	}
	return n
}

// prog makes a program by chance, of some size.
func (m maker) prog(size int) api.Node {
	n := prog()
	for range m.r.Intn(4) {
		of := ""
		if m.r.Intn(2) == 0 {
			of = m.class()
		}
		x := class(m.class(), of)
		for range m.r.Intn(4) {
			x.Kids = append(x.Kids, field(m.name(), m.typ()))
		}
		for range m.r.Intn(4) {
			y := method(m.name(), m.typ())
			for range m.r.Intn(9) {
				y.Kids = append(y.Kids, param(m.name(), m.typ()))
			}
			y.Kids = append(y.Kids, m.block(size/6))
			x.Kids = append(x.Kids, y)
		}
		n.Kids = append(n.Kids, x)
	}
	n.Kids = append(n.Kids, m.block(size))
	return n
}

// made calls do with so many valid trees, always the same ones.
func made(n int, do func(m maker, n api.Node)) {
	m := maker{rand.New(rand.NewSource(14))}
	for i := 0; i < n; {
		x := m.prog(1 + i%307)
		if tree.Check(x) == (api.Fault{}) {
			do(m, x)
			i++
		}
	}
}

// TestMade holds what is printed of trees that are made by chance.
func TestMade(t *testing.T) {
	t.Parallel()
	w := newWriter(nil)
	kinds, nodes := map[int]int{}, 0
	made(4000, func(m maker, n api.Node) {
		w.hold(t, n)
		for _, x := range preorder(n) {
			kinds[x.Kind]++
			nodes++
		}
	})
	for kind := api.KindProg; kind <= api.KindConv; kind++ {
		if kinds[kind] < 1000 {
			t.Errorf("%d nodes of the kind %d", kinds[kind], kind)
		}
	}
	if nodes < 300000 {
		t.Errorf("%d nodes", nodes)
	}
}

// change changes one node of a tree by chance, so that the tree may not be valid any more.
func (m maker) change(n api.Node) {
	l := preorder(n)
	x := l[m.r.Intn(len(l))]
	switch m.r.Intn(8) {
	case 0:
		x.Kind = m.r.Intn(37) - 1
	case 1:
		x.Text = m.of("", "a", "A", "if", "-", "+", "nan", "real", "?", "int", "a b", "\x00", "=")
	case 2:
		x.Type = m.of("", "a", "A", "int", "?", "len", "=")
	case 3:
		x.From = m.of("a", "?")
	case 4:
		x.N = []int{-1, 0, 1, 2, 1<<53 + 1}[m.r.Intn(5)]
	case 5:
		x.Kids = append(slices.Clone(x.Kids), *l[len(l)-1])
	case 6:
		x.Kids = x.Kids[:len(x.Kids)/2]
	case 7:
		x.Kids = []api.Node{{Kind: m.r.Intn(30)}}
	}
}

// TestChanged holds that what is not valid is refused with the fault of tree.Check, and the rest printed.
func TestChanged(t *testing.T) {
	t.Parallel()
	w := newWriter(nil)
	errs, after := map[api.Errno]int{}, 0
	made(3000, func(m maker, n api.Node) {
		m.change(n)
		f := tree.Check(n)
		errs[f.Err]++
		if f == (api.Fault{}) {
			w.hold(t, n)
			return
		}
		if f.At > 2 {
			after++
		}
		holdFault(t, n, f.Err, f.At)
		if l, g := printer.Tokens(n); l != nil || g != f {
			t.Fatalf("%s: %d tokens, %v, and not %v", show(n), len(l), g, f)
		}
	})
	if errs[api.OK] < 100 || errs[api.ErrForm] < 1000 || errs[api.ErrName] < 50 || errs[api.ErrType] < 20 || errs[api.ErrRange] < 10 || after < 1000 {
		t.Errorf("the faults of the trees: %v, %d of them not at the beginning", errs, after)
	}
}

// TestAllLevels holds the level of all kinds with all texts.
func TestAllLevels(t *testing.T) {
	for kind := -3; kind <= 40; kind++ {
		for s := range strings.FieldsSeq(words + " " + signs + " x C 1 &&& |||| ++ +- <<= ==!= */%") {
			for _, text := range []string{s, "", s + " ", " " + s} {
				for _, n := range []api.Node{{Kind: kind, Text: text}, {Kind: kind, Text: text, Type: s, From: s, N: 3, Kids: []api.Node{{Kind: api.KindSet}}}} {
					want := 8
					switch {
					case kind == api.KindBin && !slices.Contains(strings.Fields("|| && == != < <= + - * / %"), text):
						want = 6
					default:
						want = level(n)
					}
					if got := printer.Level(n); got != want {
						t.Errorf("%s: %d, and not %d", show(n), got, want)
					}
				}
			}
		}
	}
}
