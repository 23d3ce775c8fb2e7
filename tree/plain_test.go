package tree_test

import (
	"math"
	"math/rand"
	"regexp"
	"slices"
	"strings"
	"testing"

	"chaperon/api"
	"chaperon/tree"
)

// spot is a node of a tree, and how many nodes are above it.
type spot struct {
	node  *api.Node
	above int
}

// preorder returns the nodes of a tree, in the order of places.
func preorder(n api.Node) []spot {
	var l []spot
	var visit func(n *api.Node, above int)
	visit = func(n *api.Node, above int) {
		l = append(l, spot{n, above})
		for i := range n.Kids {
			visit(&n.Kids[i], above+1)
		}
	}
	visit(&n, 0)
	return l
}

// line is a second reading of a line of the chapter's table: what kids there may be, by their letters (of the right kinds, and not too many as well); what may be in Text and in Type, and the errors if something else is there; the least and the greatest N.
type line struct {
	kids, few        *regexp.Regexp
	text, typ        *regexp.Regexp
	textErr, typeErr api.Errno
	least, most      int
}

// plain is a second reading of the chapter, by patterns.
type plain map[int]line

// letters returns the kinds of nodes, a letter for each.
func letters(l []api.Node) string {
	var all strings.Builder
	for _, n := range l {
		c := byte('x')
		switch k := n.Kind; {
		case k >= 2 && k <= 6:
			c = "cfmpb"[k-2]
		case k == 15:
			c = 'l'
		case k >= 7 && k <= 29:
			c = 'e'
		}
		all.WriteByte(c)
	}
	return all.String()
}

func newPlain() plain {
	p := plain{}
	add := func(kind int, kids, text string, textErr api.Errno, typ string, typeErr api.Errno) {
		few := strings.NewReplacer("c*", "c{0,40}", "f*", "f{0,20}", "m*", "m{0,20}", "p*", "p{0,8}", "e*", "e{0,8}").Replace(kids)
		p[kind] = line{
			kids: regexp.MustCompile(`^(?:` + kids + `)$`), few: regexp.MustCompile(`^(?:` + few + `)$`),
			text: regexp.MustCompile(`^(?:` + text + `)$`), typ: regexp.MustCompile(`^(?:` + typ + `)$`),
			textErr: textErr, typeErr: typeErr,
		}
	}
	const name, class, typ = `[a-z][a-zA-Z0-9]{0,19}`, `[A-Z][a-zA-Z0-9]{0,19}`, `int|real|bool|str|unit|\?|[A-Z][a-zA-Z0-9]{0,19}`
	const form, names, types = api.ErrForm, api.ErrName, api.ErrType
	add(1, "c*b", "", form, "", form)
	add(2, "f*m*", class, names, "|"+class, names)
	add(3, "", name, names, typ, types)
	add(4, "p*b", name, names, typ, types)
	add(5, "", name, names, typ, types)
	add(6, "[el]*", "", form, "", form)
	add(7, "", "", form, "", form)
	add(8, "", "|nan|inf", form, "", form)
	add(9, "", "", form, "", form)
	add(10, "", `[\n -~]*`, form, "", form)
	add(11, "", "", form, "", form)
	add(12, "", "", form, class, names)
	add(13, "", "", form, "", form)
	add(14, "", name, names, "", form)
	add(15, "e", name, names, typ, types)
	add(16, "e", name, names, "", form)
	add(17, "e", name, names, "", form)
	add(18, "ee", name, names, "", form)
	add(19, "ee*", name, names, "", form)
	add(20, "e*", name, names, "", form)
	add(21, "e*", "", form, class, names)
	add(22, "ebb", "", form, "", form)
	add(23, "eb", "", form, "", form)
	add(24, "e", "-|!", form, "", form)
	add(25, "ee", `\|\||&&|==|!=|<|<=|\+|-|\*|/|%`, form, "", form)
	add(26, "", "", form, "", form)
	add(27, "e", "", form, "", form)
	add(28, "e", "", form, typ, types)
	add(29, "e", "real|int|len", form, "", form)
	for kind, most := range map[int]int{7: math.MaxInt, 8: 1 << 53, 9: 1} {
		x := p[kind]
		x.most = most
		p[kind] = x
	}
	return p
}

const reserved = " class def var main let if else while new none this super read print true false nan inf int real bool str unit len "

// node returns the error of a node.
func (p plain) node(n *api.Node) api.Errno {
	x, is := p[n.Kind]
	kids := letters(n.Kids)
	if !is || !x.kids.MatchString(kids) {
		return api.ErrForm
	}
	if !x.few.MatchString(kids) {
		return api.ErrMany
	}
	found := map[api.Errno]bool{}
	if !x.text.MatchString(n.Text) || x.textErr == api.ErrName && strings.Contains(reserved, " "+n.Text+" ") {
		found[x.textErr] = true
	}
	if !x.typ.MatchString(n.Type) {
		found[x.typeErr] = true
	}
	switch {
	case n.From != "", x.most == 0 && n.N != 0, n.Kind == 8 && n.Text != "" && n.N != 0:
		found[api.ErrForm] = true
	case n.N < 0, n.N > x.most:
		found[api.ErrRange] = true
	}
	if n.Kind == 10 && len(n.Text) > 1000 {
		found[api.ErrLong] = true
	}
	for _, err := range []api.Errno{api.ErrForm, api.ErrName, api.ErrType, api.ErrRange, api.ErrLong} {
		if found[err] {
			return err
		}
	}
	return api.OK
}

// check returns the fault of a tree.
func (p plain) check(n api.Node) api.Fault {
	l := preorder(n)
	if len(l) > 5000 {
		return api.Fault{Err: api.ErrMany}
	}
	if i := slices.IndexFunc(l, func(s spot) bool { return s.above >= 60 }); i >= 0 {
		return api.Fault{Err: api.ErrDeep, At: i}
	}
	if n.Kind != 1 {
		return api.Fault{Err: api.ErrForm}
	}
	for i, s := range l {
		if err := p.node(s.node); err != api.OK {
			return api.Fault{Err: err, At: i}
		}
	}
	return api.Fault{}
}

// hold holds the fault of a tree against the second reading, and returns it.
func (p plain) hold(t *testing.T, n api.Node) api.Errno {
	t.Helper()
	want := p.check(n)
	if f := tree.Check(n); f != want {
		t.Fatalf("%s: %v, and not %v", show(n), f, want)
	}
	return want.Err
}

// valid returns a valid node of each kind, at its number.
func valid() [30]api.Node {
	var l [30]api.Node
	for _, n := range append(expressions(), prog(block()), class(), field(), method(block()), param(), block(), letOf(unit())) {
		l[n.Kind] = n
	}
	return l
}

// texts returns texts of all sorts.
func texts() []string {
	return []string{
		"", "a", "x1Y", "A", "Cat2", "?", "int", "real", "bool", "str", "unit", "len", "nan", "inf", "if", "none", "-", "!", "||", "<=", "%", "a b", " ", "a\n", "\t", "2C", "é", ">",
		strings.Repeat("a", 20), strings.Repeat("a", 21), strings.Repeat("A", 20), strings.Repeat("A", 21), strings.Repeat("a", 1000), strings.Repeat("a", 1001), strings.Repeat("\x00", 1001),
	}
}

func numbers() []int {
	return []int{0, 1, 2, -1, 3, 1 << 53, 1<<53 + 1, math.MaxInt, math.MinInt}
}

// TestAllFields holds nodes of each kind with all that may be in their fields.
func TestAllFields(t *testing.T) {
	p := newPlain()
	seen := map[api.Errno]int{}
	for kind, n := range valid() {
		n.Kind = kind
		for _, n.Text = range texts() {
			for _, n.Type = range []string{"", "a", "A", "Cat2", "?", "int", "real", "bool", "str", "unit", "len", "int2", " ", "2C", strings.Repeat("A", 20), strings.Repeat("A", 21)} {
				for _, n.From = range []string{"", "A"} {
					for _, n.N = range numbers() {
						x, _ := placed(n)
						seen[p.hold(t, x)]++
					}
				}
			}
		}
	}
	if seen[api.OK] < 150 || seen[api.ErrForm] < 200000 || seen[api.ErrName] < 2500 || seen[api.ErrType] < 80 || seen[api.ErrRange] < 10 || seen[api.ErrLong] < 1 {
		t.Errorf("the faults: %v", seen)
	}
}

// TestAllKids holds nodes of each kind with few kids of all kinds, and with more of each sort.
func TestAllKids(t *testing.T) {
	p := newPlain()
	seen := map[api.Errno]int{}
	all := valid()
	kids := append(slices.Clone(all[:]), kid(30), kid(34), kid(-1))
	sorts := append(slices.Clone(all[2:7]), all[api.KindLet], unit(), kid(30))
	for kind, n := range all {
		n.Kind = kind
		try := func(l ...api.Node) {
			n.Kids = l
			x, _ := placed(n)
			seen[p.hold(t, x)]++
		}
		try()
		for _, a := range kids {
			try(a)
			for _, b := range kids {
				try(a, b)
			}
		}
		for _, a := range sorts {
			for _, b := range sorts {
				for _, c := range sorts {
					try(a, b, c)
					for _, d := range sorts {
						try(a, b, c, d)
					}
				}
			}
		}
	}
	if seen[api.OK] < 300 || seen[api.ErrForm] < 30000 {
		t.Errorf("the faults: %v", seen)
	}
}

// TestRows holds nodes of each kind with rows of kids around the limits.
func TestRows(t *testing.T) {
	p := newPlain()
	seen := map[api.Errno]int{}
	all := valid()
	sorts := append(slices.Clone(all[2:7]), unit())
	sizes := []int{0, 1, 7, 8, 9, 10, 19, 20, 21, 39, 40, 41}
	for kind, n := range all {
		n.Kind = kind
		for _, a := range sorts {
			for _, b := range sorts {
				for _, i := range sizes {
					for _, k := range sizes {
						n.Kids = list(times(i, a), times(k, b))
						x, _ := placed(n)
						seen[p.hold(t, x)]++
					}
				}
			}
		}
	}
	if seen[api.OK] < 1000 || seen[api.ErrMany] < 900 || seen[api.ErrForm] < 30000 {
		t.Errorf("the faults: %v", seen)
	}
}

// maker makes trees by chance.
type maker struct{ r *rand.Rand }

func (m maker) of(l ...string) string { return l[m.r.Intn(len(l))] }
func (m maker) name() string          { return m.of("a", "b", "x1Y", "nothing", strings.Repeat("a", 20)) }
func (m maker) class() string         { return m.of("A", "B", "Cat2", strings.Repeat("A", 20)) }
func (m maker) typ() string           { return m.of("int", "real", "bool", "str", "unit", "?", m.class()) }

// list makes so many things at most.
func (m maker) list(most int, make func() api.Node) []api.Node {
	var l []api.Node
	for range m.r.Intn(most + 1) {
		l = append(l, make())
	}
	return l
}

func (m maker) prog(size int) api.Node {
	return prog(list(m.list(3, func() api.Node { return m.classOf(size) }), m.block(size))...)
}

func (m maker) classOf(size int) api.Node {
	fields := m.list(3, func() api.Node { return both(api.KindField, m.name(), m.typ()) })
	methods := m.list(3, func() api.Node {
		params := m.list(8, func() api.Node { return both(api.KindParam, m.name(), m.typ()) })
		return both(api.KindMethod, m.name(), m.typ(), list(params, m.block(size/2))...)
	})
	return both(api.KindClass, m.class(), m.of("", m.class()), list(fields, methods)...)
}

func (m maker) block(size int) api.Node {
	return block(m.list(min(size, 4), func() api.Node {
		if m.r.Intn(3) == 0 {
			return both(api.KindLet, m.name(), m.typ(), m.expr(size-1))
		}
		return m.expr(size - 1)
	})...)
}

// expr makes an expression, no deeper than so.
func (m maker) expr(size int) api.Node {
	x := expressions()[m.r.Intn(22)]
	if size <= 0 {
		x = append(expressions()[:8], kid(api.KindRead))[m.r.Intn(9)]
	}
	switch x.Kind {
	case api.KindVar, api.KindSet, api.KindGet, api.KindPut, api.KindCall, api.KindSuper:
		x.Text = m.name()
	case api.KindNone, api.KindNew:
		x.Type = m.class()
	case api.KindAs:
		x.Type = m.typ()
	case api.KindInt:
		x.N = m.r.Int()
	case api.KindBin:
		x.Text = m.of("||", "&&", "==", "!=", "<", "<=", "+", "-", "*", "/", "%")
	}
	for i, k := range x.Kids {
		if k.Kind == api.KindBlock {
			x.Kids[i] = m.block(size - 1)
		} else {
			x.Kids[i] = m.expr(size - 1)
		}
	}
	switch x.Kind {
	case api.KindCall, api.KindSuper, api.KindNew:
		x.Kids = append(x.Kids, m.list(min(size, 8), func() api.Node { return m.expr(size - 2) })...)
	}
	return x
}

// change changes something in a tree.
func (m maker) change(n *api.Node) {
	l := preorder(*n)
	i := m.r.Intn(len(l))
	x := l[i].node
	if i == 0 {
		x = n
	}
	other := full(*l[m.r.Intn(len(l))].node)
	k := m.r.Intn(len(x.Kids) + 1)
	switch m.r.Intn(12) {
	case 0:
		x.Kind = m.r.Intn(38) - 2
	case 1:
		x.Text = texts()[m.r.Intn(len(texts()))]
	case 2:
		x.Type = texts()[m.r.Intn(len(texts()))]
	case 3:
		x.From = m.of("", "A")
	case 4:
		x.N = numbers()[m.r.Intn(len(numbers()))]
		if x.Kind == api.KindStr {
			x.N, x.Text = 0, strings.Repeat("a", 999+m.r.Intn(4))
		}
	case 5:
		x.Kids = slices.Delete(x.Kids, k, min(k+1, len(x.Kids)))
	case 6, 7:
		x.Kids = slices.Insert(x.Kids, k, other)
	case 8:
		*x = other
	case 9:
		slices.Reverse(x.Kids)
	case 10:
		x.Kids = append(x.Kids, times(m.r.Intn(45), other)...)
	case 11:
		x.Kids = slices.Insert(x.Kids, k, row(m.r.Intn(70)+1))
	}
}

// made calls do with many valid trees that are made by chance, always the same ones.
func made(do func(m maker, n api.Node)) {
	m := maker{rand.New(rand.NewSource(12))}
	for i := range 4000 {
		do(m, m.prog(i%13))
	}
}

// changed calls do with many trees that are valid, or were so until some things were changed.
func changed(do func(m maker, n api.Node)) {
	made(func(m maker, n api.Node) {
		do(m, n)
		for range 4 {
			x := full(n)
			for range m.r.Intn(3) + 1 {
				m.change(&x)
			}
			do(m, x)
		}
	})
}

// TestByChance holds many trees that are made by chance.
func TestByChance(t *testing.T) {
	p := newPlain()
	seen := map[api.Errno]int{}
	changed(func(_ maker, n api.Node) { seen[p.hold(t, n)]++ })
	for _, err := range []api.Errno{api.OK, api.ErrForm, api.ErrName, api.ErrType, api.ErrRange, api.ErrLong, api.ErrMany, api.ErrDeep} {
		if seen[err] < 10 {
			t.Errorf("the faults: %v", seen)
		}
	}
}

// TestMadeAreValid holds that what is made to be valid is so.
func TestMadeAreValid(t *testing.T) {
	nodes := 0
	made(func(_ maker, n api.Node) {
		l := preorder(n)
		nodes += len(l)
		if f := tree.Check(n); f != (api.Fault{}) && len(l) <= 5000 {
			t.Fatalf("%s: %v", show(n), f)
		}
	})
	if nodes < 100000 {
		t.Errorf("%d nodes", nodes)
	}
}
