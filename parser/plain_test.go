package parser_test

import (
	"math/rand"
	"slices"
	"strconv"
	"strings"
	"testing"

	"chaperon/api"
	"chaperon/lexer"
	"chaperon/parser"
	"chaperon/tree"
)

// chapter is the chapter's grammar as it stands there, but for the line of expr: what may stand before its = is a place, which is the tree of a name, or of a Get.
const chapter = `
    program = { class } "main" block
    class   = "class" Class [ ":" Class ] "{" { field } { method } "}"
    field   = "var" name [ ":" type ] ";"
    method  = "def" name "(" [ param { "," param } ] ")" [ ":" type ] block
    param   = name [ ":" type ]
    type    = "int" | "real" | "bool" | "str" | "unit" | "?" | Class
    block   = "{" [ entry { ";" entry } [ ";" ] ] "}"
    entry   = "let" name [ ":" type ] "=" expr | expr
    expr    = or | place "=" expr
    place   = name | post "." name | "(" place ")"
    or      = and { "||" and }
    and     = same { "&&" same }
    same    = less { ( "==" | "!=" ) less }
    less    = sum { ( "<" | "<=" ) sum }
    sum     = term { ( "+" | "-" ) term }
    term    = unary { ( "*" | "/" | "%" ) unary }
    unary   = ( "-" | "!" ) unary | post
    post    = prim { "." name [ args ] }
    args    = "(" [ expr { "," expr } ] ")"
    prim    = int | real | "nan" | "inf" | "true" | "false" | str | "(" ")" | "(" expr [ ":" type ] ")"
            | "none" Class | "this" | name | "super" "." name args | "new" Class args
            | "if" expr block "else" block | "while" expr block
            | "read" "(" ")" | "print" "(" expr ")" | ( "real" | "int" | "len" ) "(" expr ")"
`

// dot is a rule of which so many words have been read: the part that it makes, and what is read next (-1: nothing more), a part, or a token, in quotation marks or by its kind's name.
type dot struct{ part, next int }

// grammar is rules without brackets, each as dots beside one another, its words by their numbers: what stood in brackets is a part of its own, whose name begins with #.
type grammar struct {
	names   []string
	numbers map[string]int
	ways    [][]int // the first dots of the rules of each part; of a token none
	empty   []bool  // the parts that may be empty
	dots    []dot
}

// newGrammar reads the grammar.
func newGrammar() *grammar {
	g := &grammar{numbers: map[string]int{}}
	lines := strings.Split(strings.ReplaceAll(strings.TrimSpace(chapter), "\n            |", " |"), "\n")
	for _, line := range lines {
		l := strings.Fields(line)
		choices, _ := g.choices(l[2:])
		g.add(l[0], choices)
	}
	for range g.dots {
		for i := 0; i < len(g.dots); i++ {
			first, all := i, true
			for ; g.dots[i].next >= 0; i++ {
				all = all && g.empty[g.dots[i].next]
			}
			g.empty[g.dots[first].part] = g.empty[g.dots[first].part] || all
		}
	}
	return g
}

// number returns the number of a word.
func (g *grammar) number(word string) int {
	n, is := g.numbers[word]
	if !is {
		n = len(g.names)
		g.numbers[word] = n
		g.names, g.ways, g.empty = append(g.names, word), append(g.ways, nil), append(g.empty, false)
	}
	return n
}

// add adds the rules of a part.
func (g *grammar) add(part string, choices [][]string) {
	p := g.number(part)
	for _, l := range choices {
		g.ways[p] = append(g.ways[p], len(g.dots))
		for _, word := range l {
			g.dots = append(g.dots, dot{p, g.number(word)})
		}
		g.dots = append(g.dots, dot{p, -1})
	}
}

// choices reads what is separated by |, up to the end or a closing bracket, and returns what follows.
func (g *grammar) choices(l []string) ([][]string, []string) {
	all := [][]string{nil}
	for len(l) > 0 {
		word := l[0]
		l = l[1:]
		last := &all[len(all)-1]
		switch word {
		case ")", "]", "}":
			return all, l
		case "|":
			all = append(all, nil)
		case "(", "[", "{":
			inside, rest := g.choices(l)
			l = rest
			part := "#" + strconv.Itoa(len(g.dots))
			if word == "{" {
				for i := range inside {
					inside[i] = append(inside[i], part)
				}
			}
			if word != "(" {
				inside = append(inside, nil)
			}
			g.add(part, inside)
			*last = append(*last, part)
		default:
			*last = append(*last, word)
		}
	}
	return all, nil
}

// item is a dot that has been read from a token on.
type item struct{ dot, from int }

// state is all items that are possible at a token: in a list, where each dot has been read from, and which items wait for each part.
type state struct {
	list  []item
	froms [][]int
	waits [][]item
}

// chart is the states before each token and after the last one (as Earley found).
type chart struct {
	*grammar
	tokens []int
	states []*state
}

// newChart returns the chart of no token.
func newChart(g *grammar) *chart {
	c := &chart{grammar: g}
	s := c.state()
	for _, way := range g.ways[g.numbers["program"]] {
		s.add(item{way, 0})
	}
	c.close(s)
	return c
}

// state adds a state without items, one that was cut off if there is one.
func (c *chart) state() *state {
	here := len(c.states)
	if here < cap(c.states) && c.states[:here+1][here] != nil {
		c.states = c.states[:here+1]
		s := c.states[here]
		for _, x := range s.list {
			s.froms[x.dot] = s.froms[x.dot][:0]
		}
		for i := range s.waits {
			s.waits[i] = s.waits[i][:0]
		}
		s.list = s.list[:0]
		return s
	}
	s := &state{froms: make([][]int, len(c.dots)), waits: make([][]item, len(c.names))}
	c.states = append(c.states, s)
	return s
}

// has reports whether an item is possible.
func (s *state) has(x item) bool { return slices.Contains(s.froms[x.dot], x.from) }

// add adds an item.
func (s *state) add(x item) {
	if !s.has(x) {
		s.froms[x.dot] = append(s.froms[x.dot], x.from)
		s.list = append(s.list, x)
	}
}

// close adds all that follows from the items of the last state.
func (c *chart) close(s *state) {
	here := len(c.states) - 1
	for i := 0; i < len(s.list); i++ {
		x := s.list[i]
		d := c.dots[x.dot]
		switch {
		case d.next >= 0:
			s.waits[d.next] = append(s.waits[d.next], x)
			for _, way := range c.ways[d.next] {
				s.add(item{way, here})
			}
			if c.empty[d.next] {
				s.add(item{x.dot + 1, x.from})
			}
		case x.from < here: // those that are empty are read as soon as they are waited for
			for _, y := range c.states[x.from].waits[d.part] {
				s.add(item{y.dot + 1, y.from})
			}
		}
	}
}

// last returns the state after the last token.
func (c *chart) last() *state { return c.states[len(c.states)-1] }

// push adds a token, if a program could have it here.
func (c *chart) push(sort string) bool {
	n, is := c.numbers[sort]
	if !is || len(c.last().waits[n]) == 0 {
		return false
	}
	l := c.last().waits[n]
	s := c.state()
	for _, x := range l {
		s.add(item{x.dot + 1, x.from})
	}
	c.tokens = append(c.tokens, n)
	c.close(s)
	return true
}

// cut takes tokens away, so that so many are left.
func (c *chart) cut(size int) {
	c.tokens, c.states = c.tokens[:size], c.states[:size+1]
}

// could returns the tokens that a program could have here.
func (c *chart) could() []string {
	var sorts []string
	for n, l := range c.last().waits {
		if len(l) > 0 && len(c.ways[n]) == 0 {
			sorts = append(sorts, c.names[n])
		}
	}
	return sorts
}

// whole reports whether the tokens are a program.
func (c *chart) whole() bool {
	return len(c.made(c.numbers["program"], 0, len(c.tokens))) > 0
}

// made returns the last dots of the rules by which the tokens from one up to another one are a part.
func (c *chart) made(part, from, to int) []int {
	var l []int
	for _, way := range c.ways[part] {
		for c.dots[way].next >= 0 {
			way++
		}
		if c.states[to].has(item{way, from}) {
			l = append(l, way)
		}
	}
	return l
}

// piece is a part of a program, or one token: what it is, from which token up to which one, and of what it is made.
type piece struct {
	sort     string
	token    api.Token
	from, to int
	pieces   []piece
}

// piece returns how tokens are a part; it fails if there are two ways.
func (c *chart) piece(t *testing.T, tokens []api.Token, part, from, to int) piece {
	ends := c.made(part, from, to)
	if len(ends) != 1 {
		t.Fatalf("%d ways to be %s, from %d to %d", len(ends), c.names[part], from, to)
	}
	p := piece{sort: c.names[part], from: from, to: to}
	for at := ends[0] - 1; at >= 0 && c.dots[at].part == part && c.dots[at].next >= 0; at-- {
		x := c.dots[at].next
		if len(c.ways[x]) == 0 {
			to--
			p.pieces = append(p.pieces, piece{sort: c.names[x], token: tokens[to], from: to, to: to + 1})
			continue
		}
		var middles []int
		for middle := from; middle <= to; middle++ {
			if c.states[middle].has(item{at, from}) && len(c.made(x, middle, to)) > 0 {
				middles = append(middles, middle)
			}
		}
		if len(middles) != 1 {
			t.Fatalf("%d ways to be %s up to %d", len(middles), c.names[x], to)
		}
		if middles[0] < to {
			p.pieces = append(p.pieces, c.piece(t, tokens, x, middles[0], to))
		}
		to = middles[0]
	}
	slices.Reverse(p.pieces)
	// What stood in brackets belongs to the part in which they stood.
	var flat []piece
	for _, x := range p.pieces {
		if strings.HasPrefix(x.sort, "#") {
			flat = append(flat, x.pieces...)
		} else {
			flat = append(flat, x)
		}
	}
	p.pieces = flat
	return p
}

// program returns how the tokens of a chart are a program.
func (c *chart) program(t *testing.T, tokens []api.Token) piece {
	return c.piece(t, tokens, c.numbers["program"], 0, len(tokens))
}

// all returns the pieces of some sorts.
func (p piece) all(sorts ...string) []piece {
	var l []piece
	for _, x := range p.pieces {
		if slices.Contains(sorts, x.sort) {
			l = append(l, x)
		}
	}
	return l
}

// trees returns the trees of the pieces of some sorts.
func (p piece) trees(sorts ...string) []api.Node {
	var l []api.Node
	for _, x := range p.all(sorts...) {
		l = append(l, x.tree())
	}
	return l
}

// word returns the Text of the one piece of a sort, or something else if there is none.
func (p piece) word(sort, otherwise string) string {
	for _, x := range p.all(sort) {
		if sort == "type" {
			return x.pieces[0].token.Text
		}
		return x.token.Text
	}
	return otherwise
}

// tree returns the tree of a piece.
func (p piece) tree() api.Node {
	first := p.pieces[0]
	switch p.sort {
	case "program":
		return kid(api.KindProg, p.trees("class", "block")...)
	case "class":
		n := txt(api.KindClass, p.word("Class", ""), p.trees("field", "method")...)
		if l := p.all("Class"); len(l) > 1 {
			n.Type = l[1].token.Text
		}
		return n
	case "field":
		return both(api.KindField, p.word("name", ""), p.word("type", "?"))
	case "method":
		return both(api.KindMethod, p.word("name", ""), p.word("type", "?"), p.trees("param", "block")...)
	case "param":
		return both(api.KindParam, p.word("name", ""), p.word("type", "?"))
	case "block":
		return kid(api.KindBlock, p.trees("entry")...)
	case "entry":
		if first.sort == `"let"` {
			return both(api.KindLet, p.word("name", ""), p.word("type", "?"), p.trees("expr")...)
		}
	case "expr":
		if first.sort == "place" {
			return first.put(p.pieces[2].tree())
		}
	case "unary":
		if len(p.pieces) == 2 {
			return txt(api.KindUn, first.token.Text, p.pieces[1].tree())
		}
	case "post":
		return p.post()
	case "prim":
		return p.prim()
	}
	// Operations with two operands, and what is nothing but what it is made of.
	n := first.tree()
	for i := 2; i < len(p.pieces); i += 2 {
		n = txt(api.KindBin, p.pieces[i-1].token.Text, n, p.pieces[i].tree())
	}
	return n
}

// put returns the tree of what is put to a place.
func (p piece) put(what api.Node) api.Node {
	switch p.pieces[0].sort {
	case "post":
		return txt(api.KindPut, p.word("name", ""), p.pieces[0].tree(), what)
	case "name":
		return txt(api.KindSet, p.word("name", ""), what)
	}
	return p.pieces[1].put(what)
}

// post returns the tree of a post.
func (p piece) post() api.Node {
	n := p.pieces[0].tree()
	for i := 1; i < len(p.pieces); i += 2 {
		name := p.pieces[i+1].token.Text
		if i+2 < len(p.pieces) && p.pieces[i+2].sort == "args" {
			n = txt(api.KindCall, name, append([]api.Node{n}, p.pieces[i+2].trees("expr")...)...)
			i++
			continue
		}
		n = txt(api.KindGet, name, n)
	}
	return n
}

// prim returns the tree of a prim.
func (p piece) prim() api.Node {
	x := p.pieces[0].token
	var args []api.Node
	for _, y := range p.all("args") {
		args = y.trees("expr")
	}
	inside := p.trees("expr", "block")
	switch p.pieces[0].sort {
	case "int":
		return num(api.KindInt, x.N)
	case "real":
		return num(api.KindReal, x.N)
	case `"nan"`, `"inf"`:
		return txt(api.KindReal, x.Text)
	case `"true"`:
		return num(api.KindBool, 1)
	case `"false"`:
		return num(api.KindBool, 0)
	case "str":
		return txt(api.KindStr, x.Text)
	case `"("`:
		switch len(p.pieces) {
		case 2:
			return kid(api.KindUnit)
		case 3:
			return inside[0]
		}
		return typed(api.KindAs, p.word("type", ""), inside...)
	case `"none"`:
		return typed(api.KindNone, p.word("Class", ""))
	case `"this"`:
		return kid(api.KindThis)
	case "name":
		return txt(api.KindVar, x.Text)
	case `"super"`:
		return txt(api.KindSuper, p.word("name", ""), args...)
	case `"new"`:
		return typed(api.KindNew, p.word("Class", ""), args...)
	case `"if"`:
		return kid(api.KindIf, inside...)
	case `"while"`:
		return kid(api.KindWhile, inside...)
	case `"read"`:
		return kid(api.KindRead)
	case `"print"`:
		return kid(api.KindPrint, inside...)
	}
	return txt(api.KindConv, x.Text, inside...)
}

// sortOf returns what the grammar calls a token.
func sortOf(x api.Token) string {
	switch x.Kind {
	case 1:
		return "name"
	case 2:
		return "Class"
	case 4:
		return "int"
	case 5:
		return "real"
	case 6:
		return "str"
	}
	return `"` + x.Text + `"`
}

// parse is a second reading of the chapter: the tree of a source, or its first fault.
func (c *chart) parse(t *testing.T, s string) (api.Node, api.Fault) {
	tokens, f := lexer.Lex([]byte(s))
	if f != (api.Fault{}) {
		return api.Node{}, f
	}
	c.cut(0)
	for _, x := range tokens {
		if !c.push(sortOf(x)) {
			return api.Node{}, api.Fault{Err: api.ErrForm, At: x.At}
		}
	}
	if !c.whole() {
		return api.Node{}, api.Fault{Err: api.ErrForm, At: len(s)}
	}
	n := c.program(t, tokens).tree()
	if f := tree.Check(n); f != (api.Fault{}) {
		return api.Node{}, api.Fault{Err: f.Err}
	}
	return n, api.Fault{}
}

// hold holds what is made of a source against the second reading, and returns it.
func (c *chart) hold(t *testing.T, s string) (api.Node, api.Fault) {
	t.Helper()
	want, wrong := c.parse(t, s)
	n, f := parser.Parse([]byte(s))
	if f != wrong || !equal(n, want) {
		t.Fatalf("%s: %s %v, and not %s %v", short(s), show(n), f, show(want), wrong)
	}
	return n, f
}

// sample is a token of each sort, as it stands in a source.
type sample struct{ sort, text string }

// samples returns a token of each sort.
func samples() []sample {
	l := []sample{{"name", "x"}, {"Class", "C"}, {"int", "1"}, {"real", "2r"}, {"str", `"s"`}}
	for x := range strings.FieldsSeq(words + " " + signs) {
		l = append(l, sample{`"` + x + `"`, x})
	}
	return l
}

// TestGrammar holds that the second reading knows all tokens, and which ones a program can begin with.
func TestGrammar(t *testing.T) {
	g := newGrammar()
	known := map[string]bool{}
	for n, name := range g.names {
		if len(g.ways[n]) == 0 {
			known[name] = true
		}
	}
	for _, x := range samples() {
		if !known[x.sort] {
			t.Errorf("no rule has %s", x.sort)
		}
		delete(known, x.sort)
	}
	if len(known) > 0 || len(samples()) != 51 {
		t.Errorf("%d tokens, and %v", len(samples()), known)
	}
	could := newChart(g).could()
	slices.Sort(could)
	if !slices.Equal(could, []string{`"class"`, `"main"`}) {
		t.Errorf("a program begins with %v", could)
	}
}

// holdNext holds what becomes of a source if a token of each sort follows its tokens, or none.
func (c *chart) holdNext(t *testing.T, s string) {
	t.Helper()
	size := len(c.tokens)
	for _, x := range samples() {
		all := s + x.text + " "
		if c.push(x.sort) {
			whole := c.whole()
			c.cut(size)
			if n, f := parser.Parse([]byte(all)); !whole && (f != api.Fault{Err: api.ErrForm, At: len(all)} || n.Kind != 0) {
				t.Fatalf("%s: %s %v, where more is required", all, show(n), f)
			}
			continue
		}
		if n, f := parser.Parse([]byte(all)); f != (api.Fault{Err: api.ErrForm, At: len(s)}) || n.Kind != 0 {
			t.Fatalf("%s: %s %v, and not ErrForm at %d", all, show(n), f, len(s))
		}
	}
}

// begin is how a source begins, and by how many tokens it is lengthened, by which ones.
type begin struct {
	text string
	more int
	by   string
}

// begins returns beginnings of sources.
func begins() []begin {
	return []begin{
		{"", 5, words + " " + signs + " x C 1 2r \"s\""},
		{"class C {", 7, "var def x C ? int : ; , ( ) { }"},
		{"class C { def m (", 6, "x C ? real : , ( ) { }"},
		{"class C : D { } main {", 3, words + " " + signs + " x C 1 2r \"s\""},
		{"main {", 5, "let x 1 C ( ) { } ; : = . + - new this ?"},
		{"main { x", 6, ". x ( ) , = ; } : 1"},
		{"main { (", 6, "( ) x . = : ? 1 }"},
		{"main { x . x", 6, "= . ( ) x || ! ; }"},
		{"main { if x", 6, "{ } else x ; = ."},
		{"main { while ( ) {", 5, "{ } while x ; = . ( )"},
		{"main { let", 6, "let x : C = ; } ?"},
		{"main { super", 6, "super . x ( ) , ; } ="},
		{"main { read", 6, "read print len ( ) x } : ="},
		{"main { print (", 5, "print real int ( ) x , ; } : ="},
		{"main { x +", 6, "x * - + = ; } ( )"},
		{"main { x <", 5, "x == <= && || = !"},
	}
}

// TestAllSmall lengthens beginnings of sources by all that a program could have, and holds at each of them what all tokens do there.
func TestAllSmall(t *testing.T) {
	t.Parallel()
	g := newGrammar()
	prefixes, programs := 0, 0
	for _, b := range begins() {
		c := newChart(g)
		for x := range strings.FieldsSeq(b.text) {
			l, _ := lexer.Lex([]byte(x))
			if len(l) != 1 || !c.push(sortOf(l[0])) {
				t.Fatal(b.text, x)
			}
		}
		var by []sample
		for x := range strings.FieldsSeq(b.by) {
			l, _ := lexer.Lex([]byte(x))
			by = append(by, sample{sortOf(l[0]), x})
		}
		var grow func(s string, more int)
		grow = func(s string, more int) {
			prefixes++
			c.holdNext(t, s)
			if c.whole() {
				programs++
				size := len(c.tokens)
				c.hold(t, s)
				c.cut(size)
			}
			if more == 0 {
				return
			}
			size := len(c.tokens)
			for _, x := range by {
				if c.push(x.sort) {
					grow(s+x.text+" ", more-1)
					c.cut(size)
				}
			}
		}
		grow(b.text+" ", b.more)
		t.Logf("%s: %d beginnings, %d programs", b.text, prefixes, programs)
	}
	if prefixes < 15000 || programs < 500 {
		t.Errorf("%d beginnings, %d programs", prefixes, programs)
	}
}

// maker makes sources by chance.
type maker struct{ r *rand.Rand }

func (m maker) of(l ...string) string { return l[m.r.Intn(len(l))] }

// token returns a token of a sort.
func (m maker) token(sort string) string {
	switch sort {
	case "name":
		return m.of("a", "b", "x", "x1Y", "nothing", strings.Repeat("a", 20))
	case "Class":
		return m.of("A", "B", "Cat2", "If", strings.Repeat("A", 20))
	case "int":
		return m.of("0", "1", "2", "42", "9223372036854775807")
	case "real":
		return m.of("0r", "1r", "2r", "9007199254740992r")
	case "str":
		return m.of(`""`, `"a"`, `"if"`, `"("`, `"int"`, `"}"`, `"-"`, `"a name"`, `"\n\\\""`, `"// c"`)
	}
	return sort[1 : len(sort)-1]
}

// program adds tokens to a chart that a program could have there, by chance, about so many, until they are a program; it returns them.
func (m maker) program(c *chart, size int) []string {
	var l []string
	c.cut(0)
	for len(l) < size && m.add(c, &l, m.some(c.could())) {
	}
	for !c.whole() {
		could := c.could()
		for x := range strings.FieldsSeq(`"}" ")" "else" "{" "=" name Class "(" ";" "main" "."`) {
			if slices.Contains(could, x) {
				m.add(c, &l, x)
				break
			}
		}
	}
	return l
}

// add adds a token of a sort, and reports whether more may follow.
func (m maker) add(c *chart, l *[]string, sort string) bool {
	if !c.push(sort) {
		panic("no program has a " + sort + " there")
	}
	*l = append(*l, m.token(sort))
	return len(c.could()) > 0
}

// some returns one of the sorts, those by which programs grow more often than those by which they end.
func (m maker) some(sorts []string) string {
	var l []string
	for _, x := range sorts {
		times := 3
		switch x {
		case `"}"`, `"main"`, `")"`:
			times = 1
		case "name", `"."`, `"="`, `";"`:
			times = 8
		}
		for range times {
			l = append(l, x)
		}
	}
	return m.of(l...)
}

// blank returns something that parts two tokens.
func (m maker) blank() string {
	return m.of(" ", " ", " ", "\n", "\t", "\r\n", " // c \" ( if\n", "  ")
}

// join returns tokens with blanks between.
func (m maker) join(l []string) string {
	var all strings.Builder
	for _, x := range l {
		all.WriteString(x + m.blank())
	}
	return all.String()
}

// made calls do with the tokens of so many programs, always the same ones.
func made(n int, do func(m maker, c *chart, l []string)) {
	m := maker{rand.New(rand.NewSource(13))}
	c := newChart(newGrammar())
	for i := range n {
		do(m, c, m.program(c, i%97))
	}
}

// TestMade holds the trees of programs that are made by chance; the second reading finds just one way to read each.
func TestMade(t *testing.T) {
	t.Parallel()
	kinds, errs := map[int]int{}, map[api.Errno]int{}
	made(3000, func(m maker, c *chart, l []string) {
		n, f := c.hold(t, m.join(l))
		errs[f.Err]++
		for _, x := range preorder(n) {
			kinds[x.Kind]++
		}
	})
	for kind := api.KindProg; kind <= api.KindConv; kind++ {
		if kinds[kind] < 50 {
			t.Errorf("%d nodes of the kind %d", kinds[kind], kind)
		}
	}
	if errs[api.OK] < 2500 || errs[api.ErrForm] > 0 {
		t.Errorf("the faults of the programs: %v", errs)
	}
}

// TestChanged holds what is made of programs of which a token is taken away, or put elsewhere, or replaced by another one; and of those that end early.
func TestChanged(t *testing.T) {
	t.Parallel()
	errs := map[api.Errno]int{}
	all := samples()
	made(1500, func(m maker, c *chart, l []string) {
		for range 3 {
			i, k := m.r.Intn(len(l)), m.r.Intn(len(l))
			x := all[m.r.Intn(len(all))].text
			for _, changed := range [][]string{
				slices.Delete(slices.Clone(l), i, i+1),
				slices.Insert(slices.Clone(l), i, x),
				slices.Insert(slices.Clone(l), i, l[k]),
				slices.Replace(slices.Clone(l), i, i+1, x),
				slices.Replace(slices.Clone(l), i, i+1, l[k]),
				l[:i],
				l[i:],
			} {
				_, f := c.hold(t, m.join(changed))
				errs[f.Err]++
			}
		}
	})
	if errs[api.OK] < 1000 || errs[api.ErrForm] < 20000 {
		t.Errorf("the faults of the sources: %v", errs)
	}
}

// TestNext holds at each place of some programs what all tokens do there.
func TestNext(t *testing.T) {
	t.Parallel()
	m := maker{rand.New(rand.NewSource(14))}
	c, d := newChart(newGrammar()), newChart(newGrammar())
	for i := range 200 {
		l := m.program(c, i%60)
		var s strings.Builder
		d.cut(0)
		for k, x := range l {
			d.holdNext(t, s.String())
			d.push(c.names[c.tokens[k]])
			s.WriteString(x + " ")
		}
		d.holdNext(t, s.String())
	}
}

// TestLetters holds what is made of sources in which a byte is changed, or of any bytes, or of tokens in any order.
func TestLetters(t *testing.T) {
	t.Parallel()
	errs := map[api.Errno]int{}
	letters := "\"\\n/ \n0r1aA_&|=<!\t\x00\xff(){};:.,?-"
	all := samples()
	made(1500, func(m maker, c *chart, l []string) {
		s := m.join(l)
		i, k := m.r.Intn(len(s)), m.r.Intn(len(letters))
		var any, mixed strings.Builder
		for range m.r.Intn(20) {
			any.WriteByte(letters[m.r.Intn(len(letters))])
			mixed.WriteString(all[m.r.Intn(len(all))].text + " ")
		}
		for _, changed := range []string{s[:i] + s[i+1:], s[:i] + letters[k:k+1] + s[i+1:], s[:i] + letters[k:k+1] + s[i:], s[:i], s + any.String(), any.String(), "main{" + any.String() + "}", mixed.String(), "main{" + mixed.String() + "}"} {
			_, f := c.hold(t, changed)
			errs[f.Err]++
		}
	})
	if errs[api.OK] < 1000 || errs[api.ErrForm] < 5000 || errs[api.ErrRange] < 10 || errs[api.ErrLong] < 20 {
		t.Errorf("the faults of the sources: %v", errs)
	}
}
