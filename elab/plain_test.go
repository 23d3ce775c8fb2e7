package elab_test

import (
	"maps"
	"math/rand"
	"slices"
	"strconv"
	"strings"
	"testing"

	"chaperon/api"
	"chaperon/consist"
	"chaperon/elab"
	"chaperon/opers"
	"chaperon/printer"
	"chaperon/subtype"
	"chaperon/table"
	"chaperon/tree"
)

// found is what is found out of a place of the source: the kind of its elaborated node, its type, its class From, its number (a label or a local); and the type to which it is brought by a cast, if it is, with its label.
type found struct {
	kind, n   int
	typ, from string
	to        string
	label     int
}

// reading is a second reading of the chapter: one way through the places finds out what there is, up to the first fault; a second one writes the nodes.
type reading struct {
	nodes  []*api.Node
	kids   [][]int
	all    []found
	fault  api.Fault
	p      api.Prog
	class  string
	names  []string // of the locals
	locals []string // their types
	known  map[string]int
}

// plain is the second reading of Elab.
func plain(n api.Node) (api.Prog, api.Fault) {
	if f := tree.Check(n); f != (api.Fault{}) {
		return api.Prog{}, f
	}
	r := &reading{}
	r.number(&n)
	r.p.Table = r.table()
	if f := table.Check(r.p.Table); f != (api.Fault{}) {
		return api.Prog{}, api.Fault{Err: f.Err, At: r.kids[0][f.At]}
	}
	for _, at := range r.kids[0] {
		if r.nodes[at].Kind != 2 {
			r.body("", "main", "", []int{at})
			continue
		}
		for _, m := range r.kids[at] {
			if r.nodes[m].Kind == 4 {
				r.body(r.nodes[at].Text, r.nodes[m].Text, r.nodes[m].Type, r.kids[m])
			}
		}
	}
	if r.fault != (api.Fault{}) {
		return api.Prog{}, r.fault
	}
	return r.p, api.Fault{}
}

// number gives each node its place.
func (r *reading) number(n *api.Node) int {
	at := len(r.nodes)
	r.nodes, r.kids, r.all = append(r.nodes, n), append(r.kids, nil), append(r.all, found{})
	for i := range n.Kids {
		k := r.number(&n.Kids[i])
		r.kids[at] = append(r.kids[at], k)
	}
	return at
}

// table is the table of the nodes, by their order alone: what is not a class belongs to the class or method before it.
func (r *reading) table() []api.Class {
	var t []api.Class
	for _, n := range r.nodes {
		c := len(t) - 1
		switch n.Kind {
		case 2:
			t = append(t, api.Class{Name: n.Text, Super: n.Type})
		case 3:
			t[c].Fields = append(t[c].Fields, api.Var{Name: n.Text, Type: n.Type})
		case 4:
			t[c].Methods = append(t[c].Methods, api.Sig{Name: n.Text, Result: n.Type})
		case 5:
			m := &t[c].Methods[len(t[c].Methods)-1]
			m.Params = append(m.Params, api.Var{Name: n.Text, Type: n.Type})
		}
	}
	return t
}

// body finds out all of a body, and adds it; its places are those of its parameters, and its block.
func (r *reading) body(class, name, result string, places []int) {
	r.class, r.names, r.locals, r.known = class, nil, nil, map[string]int{}
	block := places[len(places)-1]
	for _, at := range places[:len(places)-1] {
		r.known[r.nodes[at].Text] = r.local(at)
	}
	r.look(block)
	if class != "" {
		r.bring(block, result)
	}
	if r.fault == (api.Fault{}) {
		r.p.Bodies = append(r.p.Bodies, api.Body{Class: class, Name: name, Locals: r.locals, Code: r.write(block)})
	}
}

// local adds a local.
func (r *reading) local(at int) int {
	r.names, r.locals = append(r.names, r.nodes[at].Text), append(r.locals, r.nodes[at].Type)
	return len(r.names) - 1
}

// need notes a fault at a place unless something is so; only the first fault is kept, and it reports whether there is none.
func (r *reading) need(is bool, err api.Errno, at int) bool {
	if !is && r.fault == (api.Fault{}) {
		r.fault = api.Fault{Err: err, At: at}
	}
	return r.fault == (api.Fault{})
}

// label notes a new site, and returns its label.
func (r *reading) label(what int, from, to string, at int) int {
	r.need(len(r.p.Sites) < 5000, api.ErrMany, at)
	r.p.Sites = append(r.p.Sites, api.Site{What: what, From: from, To: to})
	return len(r.p.Sites)
}

// bring notes to which type a place is brought.
func (r *reading) bring(at int, typ string) {
	if r.fault != (api.Fault{}) {
		return
	}
	own := r.all[at].typ
	if own == typ || subtype.Sub(r.p.Table, own, typ) {
		return
	}
	if r.need(consist.Goes(r.p.Table, own, typ), api.ErrType, at) {
		r.all[at].to, r.all[at].label = typ, r.label(1, own, typ, at)
	}
}

// isType reports whether a type is one of the table.
func (r *reading) isType(s string) bool {
	isName := func(c api.Class) bool { return c.Name == s }
	return slices.Contains([]string{"int", "real", "bool", "str", "unit", "?"}, s) || slices.ContainsFunc(r.p.Table, isName)
}

// checks are what the chapter checks of a node before its kids.
func (r *reading) checks(at int) bool {
	n := r.nodes[at]
	known := func() bool { _, is := r.known[n.Text]; return is }
	switch n.Kind {
	case 12, 28:
		r.need(r.isType(n.Type), api.ErrName, at)
	case 13:
		r.need(r.class != "", api.ErrName, at)
	case 14, 16:
		r.need(known(), api.ErrName, at)
	case 15:
		r.need(r.isType(n.Type), api.ErrName, at)
		r.need(!slices.Contains(r.names, n.Text), api.ErrDouble, at)
		r.need(len(r.names) < 200, api.ErrMany, at)
	}
	return r.fault == (api.Fault{})
}

// look finds out all of a place, and of those below it.
func (r *reading) look(at int) {
	if r.fault != (api.Fault{}) || !r.checks(at) {
		return
	}
	n, kids := r.nodes[at], r.kids[at]
	f := found{kind: n.Kind}
	switch n.Kind {
	case 7, 26:
		f.typ, f.n = "int", n.N
	case 8:
		f.typ, f.n = "real", n.N
	case 9:
		f.typ, f.n = "bool", n.N
	case 10:
		f.typ = "str"
	case 11:
		f.typ = "unit"
	case 12:
		f.typ = n.Type
	case 13:
		f.typ = r.class
	case 14:
		f.n = r.known[n.Text]
		f.typ = r.locals[f.n]
	case 15:
		f.typ, f.n = "unit", r.local(at)
		r.take(kids, n.Type)
		r.known[n.Text] = f.n
	case 16:
		f.typ, f.n = "unit", r.known[n.Text]
		r.take(kids, r.locals[f.n])
	case 6:
		before := maps.Clone(r.known)
		f.typ = "unit"
		for _, k := range kids {
			r.look(k)
			f.typ = r.all[k].typ
		}
		r.known = before
	case 23:
		f.typ = "unit"
		r.take(kids[:1], "bool")
		r.look(kids[1])
	case 27:
		f.typ = "unit"
		r.look(kids[0])
	case 28:
		f.kind, f.typ = 6, n.Type
		r.take(kids, n.Type)
	case 17, 18, 19:
		r.member(at, &f)
	case 20:
		r.super(at, &f)
	case 21:
		r.object(at, &f)
	case 22:
		r.choice(at, &f)
	case 24, 29, 25:
		r.operation(at, &f)
	}
	f.to, f.label = r.all[at].to, r.all[at].label
	r.all[at] = f
}

// take looks at places, and brings each to a type at once; to those in order, if there are several.
func (r *reading) take(places []int, types ...string) {
	for i, k := range places {
		r.look(k)
		r.bring(k, types[i])
	}
}

// member finds out what becomes of a Get, a Put or a Call.
func (r *reading) member(at int, f *found) {
	n, kids := r.nodes[at], r.kids[at]
	r.look(kids[0])
	if r.fault != (api.Fault{}) {
		return
	}
	class := r.all[kids[0]].typ
	if class == "?" {
		r.take(kids[1:], slices.Repeat([]string{"?"}, len(kids))...)
		f.kind, f.typ = n.Kind+14, []string{"?", "unit", "?"}[n.Kind-17]
		f.n = r.label(n.Kind-15, "?", "?", at)
		return
	}
	_, isClass := table.Find(r.p.Table, class)
	if !r.need(isClass, api.ErrType, at) {
		return
	}
	f.from = class
	if n.Kind == 19 {
		f.typ = r.called(at, class, n.Text, kids[1:])
		return
	}
	arity, is := table.Arity(r.p.Table, class, n.Text)
	if !r.need(is && arity == -1, api.ErrName, at) {
		return
	}
	f.typ, _ = table.Field(r.p.Table, class, n.Text)
	if n.Kind == 18 {
		r.take(kids[1:], f.typ)
		f.typ = "unit"
	}
}

// called takes the arguments of a class's method, and returns its result.
func (r *reading) called(at int, class, name string, args []int) string {
	methods := table.Methods(r.p.Table, class)
	i := slices.IndexFunc(methods, func(m api.Sig) bool { return m.Name == name })
	if !r.need(i >= 0, api.ErrName, at) || !r.need(len(methods[i].Params) == len(args), api.ErrType, at) {
		return ""
	}
	var types []string
	for _, p := range methods[i].Params {
		types = append(types, p.Type)
	}
	r.take(args, types...)
	return methods[i].Result
}

func (r *reading) super(at int, f *found) {
	i, is := table.Find(r.p.Table, r.class)
	if r.need(is && r.p.Table[i].Super != "", api.ErrName, at) {
		f.from = r.p.Table[i].Super
		f.typ = r.called(at, f.from, r.nodes[at].Text, r.kids[at])
	}
}

func (r *reading) object(at int, f *found) {
	f.typ = r.nodes[at].Type
	if !r.need(r.isType(f.typ), api.ErrName, at) {
		return
	}
	if arity, is := table.Arity(r.p.Table, f.typ, "init"); is && arity >= 0 {
		r.called(at, f.typ, "init", r.kids[at])
		return
	}
	r.need(len(r.kids[at]) == 0, api.ErrType, at)
}

func (r *reading) choice(at int, f *found) {
	kids := r.kids[at]
	r.take(kids[:1], "bool")
	r.look(kids[1])
	r.look(kids[2])
	if r.fault != (api.Fault{}) {
		return
	}
	a, b := r.all[kids[1]].typ, r.all[kids[2]].typ
	_, isA := table.Find(r.p.Table, a)
	_, isB := table.Find(r.p.Table, b)
	join, is := subtype.Join(r.p.Table, a, b)
	switch {
	case a == b:
		f.typ = a
	case isA && isB && is:
		f.typ = join
	default:
		f.typ = "?"
		r.bring(kids[1], "?")
		r.bring(kids[2], "?")
	}
}

func (r *reading) operation(at int, f *found) {
	n, kids := r.nodes[at], r.kids[at]
	var types []string
	for _, k := range kids {
		r.look(k)
		types = append(types, r.all[k].typ)
	}
	if r.fault != (api.Fault{}) {
		return
	}
	var o api.Oper
	var err api.Errno
	switch n.Kind {
	case 24:
		o, err = opers.Un(n.Text, types[0])
	case 29:
		o, err = opers.Conv(n.Text, types[0])
	case 25:
		o, err = opers.Bin(n.Text, types[0], types[1])
	}
	if !r.need(err == api.OK, api.ErrType, at) {
		return
	}
	f.typ = o.Result
	if o.Dyn {
		f.kind, f.n = 34, r.label(5, "?", "?", at)
		return
	}
	for _, k := range kids {
		if o.Arg != "" {
			r.bring(k, o.Arg)
		}
	}
}

// write returns the node of a place, as it is brought.
func (r *reading) write(at int) api.Node {
	n, f := r.nodes[at], r.all[at]
	x := api.Node{Kind: f.kind, Type: f.typ, From: f.from, N: f.n}
	switch f.kind {
	case 8, 10, 17, 18, 19, 20, 24, 25, 29, 31, 32, 33, 34:
		x.Text = n.Text
	}
	for _, k := range r.kids[at] {
		x.Kids = append(x.Kids, r.write(k))
	}
	if f.kind == 25 && (n.Text == "&&" || n.Text == "||") {
		x = r.logic(n.Text, x.Kids)
	}
	if f.to != "" {
		x = api.Node{Kind: 30, Type: f.to, From: f.typ, N: f.label, Kids: []api.Node{x}}
	}
	return x
}

// logic returns the choice that is made of && or ||: a decides whether b is asked.
func (r *reading) logic(op string, kids []api.Node) api.Node {
	in := func(x api.Node) api.Node { return node(6, "", "bool", x) }
	constant := node(9, "", "bool")
	if op == "&&" {
		return node(22, "", "bool", kids[0], in(kids[1]), in(constant))
	}
	constant.N = 1
	return node(22, "", "bool", kids[0], in(constant), in(kids[1]))
}

// holdPlain holds what Elab returns of a tree against the second reading, and returns it.
func holdPlain(t *testing.T, n api.Node) (api.Prog, api.Fault) {
	t.Helper()
	p, f := elab.Elab(n)
	q, g := plain(n)
	if f != g || tell(p) != tell(q) {
		s, _ := printer.Print(n)
		t.Fatalf("%s:\n%v %s\nand not\n%v %s", short(s), f, short(tell(p)), g, short(tell(q)))
	}
	return p, f
}

// TestSamplesAgree holds the sources of the other tests against the second reading, as they are and with each node changed a little.
func TestSamplesAgree(t *testing.T) {
	for _, s := range samples() {
		n := parsed(t, s)
		if _, f := holdPlain(t, n); f != (api.Fault{}) {
			t.Errorf("%s: %v", s, f)
		}
	}
	for _, n := range invalid() {
		if _, f := elab.Elab(n); f != tree.Check(n) {
			t.Errorf("%v", f)
		}
	}
}

// all types, and with each an expression of it, in a table where classes go to one another, or are below one another, or neither.
const typesTable = "class A{var x:int;def m(a:int):A{this}}class B:A{var y;}class C{var x;def m(a):C{this}}class D:C{var z:int;}class E{var x:int;def m(a:int):E{this}}class F{def init(a:int):unit{}}"

// values are expressions of all types of that table.
func values() map[string]string {
	l := map[string]string{"int": "1", "real": "2r", "bool": "true", "str": `"s"`, "unit": "()", "?": "(1:?)"}
	for _, c := range strings.Fields("A B C D E F") {
		l[c] = "none " + c
	}
	return l
}

// typeNames are the types of that table, in one order.
func typeNames() []string {
	return slices.Sorted(maps.Keys(values()))
}

// TestAllPairs holds each way in which an expression of a type is brought to a type, for all pairs of types; and all operations on all types.
func TestAllPairs(t *testing.T) {
	valid := 0
	try := func(source string) {
		if _, f := holdPlain(t, parsed(t, source)); f == (api.Fault{}) {
			valid++
		}
	}
	for _, from := range typeNames() {
		x := values()[from]
		for _, to := range typeNames() {
			y := values()[to]
			member := "class T{var f:" + to + ";def m(a:" + to + "){a}def init(a:" + to + "){a}}class U:T{def k(){super.m(" + x + ")}def l():" + to + "{" + x + "}}"
			for _, main := range []string{
				"let v:" + to + "=" + x, "let v:" + to + "=" + y + ";v=" + x, "(" + x + ":" + to + ")",
				"if true{" + x + "}else{" + y + "}", "if " + x + "{" + y + "}else{1}",
			} {
				try(typesTable + "main{" + main + "}")
			}
			for _, main := range []string{"", "(none T).f=" + x, "(none U).m(" + x + ")", "new T(" + x + ")", "new U(" + x + ")"} {
				try(typesTable + member + "main{" + main + "}")
				try(typesTable + strings.ReplaceAll(member, "super.m("+x+")", "1") + "main{" + main + "}")
				try(typesTable + strings.ReplaceAll(member, "{"+x+"}}", "{"+y+"}}") + "main{" + main + "}")
			}
			for _, op := range strings.Fields("|| && == != < <= + - * / %") {
				try(typesTable + "main{" + x + op + y + "}")
			}
		}
		for _, main := range []string{"-" + x, "!" + x, "real(" + x + ")", "int(" + x + ")", "len(" + x + ")", "print(" + x + ")", "while " + x + "{}", "while true{" + x + "}"} {
			try(typesTable + "main{" + main + "}")
		}
		for _, use := range strings.Fields("x y z q m init x=1 y=1 z=x m=1 q=() m(1) m() m((1:?)) m(()) x() q() init(1) init()") {
			try(typesTable + "main{(" + x + ")." + use + "}")
		}
	}
	if valid < 1200 {
		t.Errorf("%d valid", valid)
	}
}

// maker makes programs by chance, most of them without a fault.
type maker struct {
	r    *rand.Rand
	t    []api.Class
	wild int // one node out of so many is of any type
	left int // how many nodes more there should be at most

	static bool // there is no ?

	goes map[string][]string // which types go to a type

	own    api.Class // that of the body
	count  int       // of lets
	locals []api.Var // those that are known
}

func (m *maker) of(l ...string) string { return l[m.r.Intn(len(l))] }
func (m *maker) may(one int) bool      { return m.r.Intn(one) == 0 }
func (m *maker) typ() string           { return m.of(m.types()...) }
func (m *maker) types() []string {
	l := strings.Fields("int real bool str unit ? ? ?")
	if m.static {
		l = l[:5]
	}
	for _, c := range m.t {
		l = append(l, c.Name)
	}
	return l
}

// table makes a table without a fault.
func (m *maker) table() {
	for {
		m.t, m.goes = nil, map[string][]string{}
		for i := range m.r.Intn(6) {
			m.t = append(m.t, api.Class{Name: string(rune('A' + i))})
		}
		types := m.types()
		for i := range m.t {
			if i > 0 && m.may(4) {
				m.twin(&m.t[i], m.t[m.r.Intn(i)], types)
			} else {
				m.class(i, types)
			}
		}
		m.r.Shuffle(len(m.t), func(i, k int) { m.t[i], m.t[k] = m.t[k], m.t[i] })
		if table.Check(m.t) == (api.Fault{}) {
			return
		}
	}
}

// class makes a class, often one below one of those before it; what it has again from there has the same types.
func (m *maker) class(i int, types []string) {
	c := &m.t[i]
	if i > 0 && !m.may(3) {
		c.Super = m.t[m.r.Intn(i)].Name
	}
	for _, f := range strings.Fields("x y z") {
		if _, is := table.Arity(m.t, c.Super, f); !is && m.may(3) {
			c.Fields = append(c.Fields, api.Var{Name: f, Type: m.of(types...)})
		}
	}
	for _, f := range strings.Fields("m n init y") {
		arity, is := table.Arity(m.t, c.Name, f)
		if is && arity < 0 || !m.may(3) {
			continue
		}
		sig := api.Sig{Name: f, Result: m.of(types...)}
		for k := range m.r.Intn(4) {
			sig.Params = append(sig.Params, api.Var{Name: string(rune('a' + k)), Type: m.of(types...)})
		}
		if is {
			sig, _, _ = table.Method(m.t, c.Super, f)
		}
		c.Methods = append(c.Methods, sig)
	}
}

// twin gives a class the members of another one, with another type for one of them by chance: then it goes to that one, or nearly so.
func (m *maker) twin(c *api.Class, other api.Class, types []string) {
	c.Super, c.Fields, c.Methods = "", slices.Clone(other.Fields), nil
	for _, s := range other.Methods {
		s.Params = slices.Clone(s.Params)
		c.Methods = append(c.Methods, s)
	}
	if len(c.Fields) > 0 && m.may(2) {
		c.Fields[m.r.Intn(len(c.Fields))].Type = m.of(types...)
	}
	if len(c.Methods) > 0 && m.may(2) {
		c.Methods[m.r.Intn(len(c.Methods))].Result = m.of(types...)
	}
}

// program makes a program for the table.
func (m *maker) program() api.Node {
	p := prog()
	for _, c := range m.t {
		n := node(2, c.Name, c.Super)
		for _, f := range c.Fields {
			n.Kids = append(n.Kids, node(3, f.Name, f.Type))
		}
		for _, s := range c.Methods {
			m.own, m.count, m.locals = c, 0, slices.Clone(s.Params)
			x := node(4, s.Name, s.Result)
			for _, v := range s.Params {
				x.Kids = append(x.Kids, node(5, v.Name, v.Type))
			}
			m.left = 60
			x.Kids = append(x.Kids, m.block(s.Result, 5))
			n.Kids = append(n.Kids, x)
		}
		p.Kids = append(p.Kids, n)
	}
	m.own, m.count, m.locals, m.left = api.Class{}, 0, nil, 150
	p.Kids = append(p.Kids, m.block(m.typ(), 6))
	return p
}

// block makes a block of a type.
func (m *maker) block(typ string, depth int) api.Node {
	known := len(m.locals)
	defer func() { m.locals = m.locals[:known] }()
	b := block()
	for range m.r.Intn(4) {
		if m.left <= 0 || depth <= 0 {
			break
		}
		if !m.may(3) {
			b.Kids = append(b.Kids, m.expr(m.typ(), depth-1))
			continue
		}
		v := api.Var{Name: "v" + strconv.Itoa(m.count), Type: m.typ()}
		m.count++
		if m.may(m.wild) {
			v.Name = "v" + strconv.Itoa(m.r.Intn(m.count))
		}
		b.Kids = append(b.Kids, let(v.Name, v.Type, m.expr(v.Type, depth-1)))
		m.locals = append(m.locals, v)
	}
	if typ != "unit" || len(b.Kids) > 0 && m.may(2) {
		b.Kids = append(b.Kids, m.expr(typ, depth-1))
	} else if len(b.Kids) > 0 {
		b.Kids = append(b.Kids, node(11, "", ""))
	}
	return b
}

// expr makes an expression that goes to a type.
func (m *maker) expr(typ string, depth int) api.Node {
	m.left--
	if m.may(m.wild) {
		typ = m.typ()
	}
	if m.may(3) {
		typ = m.of(m.from(typ)...)
	}
	return m.sure(typ, depth)
}

// from returns the types that go to a type.
func (m *maker) from(typ string) []string {
	if l, is := m.goes[typ]; is {
		return l
	}
	var l []string
	for _, s := range m.types() {
		if consist.Goes(m.t, s, typ) {
			l = append(l, s)
		}
	}
	m.goes[typ] = l
	return l
}

// sure makes an expression that is of a type, or almost surely so.
func (m *maker) sure(typ string, depth int) api.Node {
	for range 6 {
		if x, is := m.exact(typ, depth); is {
			return x
		}
	}
	return m.leaf(typ)
}

// leaf makes an expression of a type, as small as there is one.
func (m *maker) leaf(typ string) api.Node {
	switch typ {
	case "int":
		return whole(m.r.Intn(5))
	case "real":
		return api.Node{Kind: 8, N: m.r.Intn(5)}
	case "bool":
		return truth(m.r.Intn(2))
	case "str":
		return node(10, m.of("", "a", "b c"), "")
	case "unit":
		return node(11, "", "")
	case "?":
		return as("?", m.leaf(m.of("int", "bool", "str", "unit")))
	}
	return none(typ)
}

// exact makes an expression of a type in some way, if it can be done so.
func (m *maker) exact(typ string, depth int) (api.Node, bool) {
	if depth <= 0 || m.left <= 0 {
		return m.leaf(typ), true
	}
	depth--
	switch m.r.Intn(12) {
	case 0:
		return as(typ, m.expr(typ, depth)), true
	case 1:
		return node(22, "", "", m.expr("bool", depth), m.block(typ, depth), m.block(typ, depth)), true
	case 2, 3:
		return m.variable(typ)
	case 4, 5, 6:
		return m.use(typ, depth)
	case 7:
		return m.leaf(typ), true
	}
	return m.special(typ, depth)
}

// variable makes a local of a type, if one is known.
func (m *maker) variable(typ string) (api.Node, bool) {
	if m.may(m.wild) {
		return name("v" + strconv.Itoa(m.r.Intn(9))), true
	}
	for _, i := range m.r.Perm(len(m.locals)) {
		if m.locals[i].Type == typ {
			return name(m.locals[i].Name), true
		}
	}
	return api.Node{}, false
}

// args makes arguments for parameters.
func (m *maker) args(l []api.Var, depth int) []api.Node {
	var all []api.Node
	for _, v := range l {
		all = append(all, m.expr(v.Type, depth))
	}
	if m.may(m.wild) {
		return append(all, m.leaf("int"))
	}
	return all
}

// use makes a use of a member that is of a type, if there is one.
func (m *maker) use(typ string, depth int) (api.Node, bool) {
	var ways []func() api.Node
	for _, c := range m.t {
		receiver := func() api.Node { return m.sure(c.Name, depth) }
		for _, f := range table.Fields(m.t, c.Name) {
			if f.Type == typ {
				ways = append(ways, func() api.Node { return node(17, f.Name, "", receiver()) })
			}
			if typ == "unit" {
				ways = append(ways, func() api.Node { return node(18, f.Name, "", receiver(), m.expr(f.Type, depth)) })
			}
		}
		for _, s := range table.Methods(m.t, c.Name) {
			if s.Result == typ {
				ways = append(ways, func() api.Node {
					return call(s.Name, append([]api.Node{receiver()}, m.args(s.Params, depth)...)...)
				})
			}
		}
	}
	if m.may(2) {
		// Where a superclass's methods can be called, they often are: there are not many such places.
		for _, s := range table.Methods(m.t, m.own.Super) {
			if s.Result == typ {
				ways = []func() api.Node{func() api.Node { return node(20, s.Name, "", m.args(s.Params, depth)...) }}
			}
		}
	}
	if len(ways) == 0 {
		return api.Node{}, false
	}
	n := ways[m.r.Intn(len(ways))]()
	if m.may(m.wild) {
		n.Text = m.of(strings.Fields("x y z m n init q")...)
	}
	return n, true
}

// special makes an expression as there are only of that type.
func (m *maker) special(typ string, depth int) (api.Node, bool) {
	bin := func(of string, ops string) api.Node {
		return node(25, m.of(strings.Fields(ops)...), "", m.expr(of, depth), m.expr(of, depth))
	}
	some := strings.Fields("x y z m n q")
	switch typ {
	case "int":
		switch m.r.Intn(5) {
		case 0:
			return node(26, "", ""), true
		case 1:
			return un("-", m.expr("int", depth)), true
		case 2:
			return node(29, "int", "", m.expr("real", depth)), true
		case 3:
			return node(29, "len", "", m.expr("str", depth)), true
		}
		return bin("int", "+ - * / %"), true
	case "real":
		switch m.r.Intn(3) {
		case 0:
			return un("-", m.sure("real", min(depth, 1))), true
		case 1:
			return node(29, "real", "", m.expr("int", depth)), true
		}
		return bin("real", "+ - * /"), true
	case "bool":
		switch m.r.Intn(6) {
		case 0:
			return un("!", m.expr("bool", depth)), true
		case 1:
			return node(25, m.of("<", "<="), "", m.sure("?", depth), m.sure("?", depth)), true
		case 2:
			return bin(m.of("int", "real"), "< <="), true
		case 3:
			return bin(m.typ(), "== !="), true
		}
		return bin("bool", "&& ||"), true
	case "str":
		return bin("str", "+"), true
	case "unit":
		return m.effect(depth)
	case "?":
		switch x := m.sure("?", depth); m.r.Intn(4) {
		case 0:
			return node(17, m.of(some...), "", x), true
		case 1:
			return call(m.of(some...), append([]api.Node{x}, m.args(slices.Repeat([]api.Var{{Type: m.typ()}}, m.r.Intn(3)), depth)...)...), true
		case 2:
			return node(25, m.of(strings.Fields("+ - * / %")...), "", x, m.sure("?", depth)), true
		}
		return node(22, "", "", m.expr("bool", depth), m.block(m.of("int", "unit"), depth), m.block(m.of("str", "?"), depth)), true
	}
	return m.object(typ, depth)
}

// effect makes an expression of the type unit.
func (m *maker) effect(depth int) (api.Node, bool) {
	switch m.r.Intn(4) {
	case 0:
		return node(27, "", "", m.expr(m.typ(), depth)), true
	case 1:
		return node(23, "", "", m.expr("bool", depth), m.block(m.typ(), depth)), true
	case 2:
		return node(18, m.of("x", "y"), "", m.sure("?", depth), m.expr(m.typ(), depth)), true
	}
	if len(m.locals) == 0 {
		return api.Node{}, false
	}
	v := m.locals[m.r.Intn(len(m.locals))]
	return node(16, v.Name, "", m.expr(v.Type, depth)), true
}

// object makes an expression of a class.
func (m *maker) object(class string, depth int) (api.Node, bool) {
	if m.may(2) && (class == m.own.Name || m.may(m.wild)) {
		return node(13, "", ""), true
	}
	s, _, _ := table.Method(m.t, class, "init")
	return node(21, "", class, m.args(s.Params, depth)...), true
}

// made calls do with so many programs made by chance, those that are valid trees.
func made(count, wild int, seed int64, do func(m *maker, n api.Node)) {
	for i := range count {
		m := &maker{r: rand.New(rand.NewSource(seed + int64(i))), wild: wild}
		m.table()
		if n := m.program(); tree.Check(n) == (api.Fault{}) {
			do(m, n)
		}
	}
}

// changed returns a tree in which one node is another one, or has something else; mostly one that is valid.
func (m *maker) changed(n api.Node) api.Node {
	x := m.change(n)
	for tree.Check(x) != (api.Fault{}) && !m.may(10) {
		x = m.change(n)
	}
	return x
}

func (m *maker) change(n api.Node) api.Node {
	n = copied(n)
	l := preorder(&n)
	x, y := l[1+m.r.Intn(len(l)-1)], l[1+m.r.Intn(len(l)-1)]
	switch m.r.Intn(7) {
	case 0:
		x.Type = m.of(append(m.types(), "Q", "")...)
	case 1:
		x.Text = m.of(strings.Fields("x y z m n init v0 v1 v2 a b A B - ! + < && == real int len")...)
	case 2:
		x.N = m.r.Intn(3)
	case 3:
		*x = copied(*y)
	case 4:
		if len(x.Kids) > 1 {
			i, k := m.r.Intn(len(x.Kids)), m.r.Intn(len(x.Kids))
			x.Kids[i], x.Kids[k] = x.Kids[k], x.Kids[i]
		}
	case 5:
		if len(x.Kids) > 0 {
			i := m.r.Intn(len(x.Kids))
			x.Kids = slices.Delete(x.Kids, i, i+1)
		}
	case 6:
		x.Kids = append(x.Kids, copied(*y))
	}
	return n
}

// copied is a tree with lists of its own.
func copied(n api.Node) api.Node {
	kids := make([]api.Node, len(n.Kids))
	for i, k := range n.Kids {
		kids[i] = copied(k)
	}
	n.Kids = kids
	return n
}

// TestMadeAgree holds programs made by chance against the second reading.
func TestMadeAgree(t *testing.T) {
	t.Parallel()
	valid, faults, nodes := 0, map[api.Errno]int{}, map[int]int{}
	for _, wild := range []int{100000, 300, 40} {
		made(600, wild, int64(wild), func(m *maker, n api.Node) {
			p, f := holdPlain(t, n)
			if f != (api.Fault{}) {
				faults[f.Err]++
				return
			}
			valid++
			for _, b := range p.Bodies {
				visit(&b.Code, func(x *api.Node) { nodes[x.Kind]++ })
			}
		})
	}
	if valid < 900 || faults[api.ErrName] < 60 || faults[api.ErrType] < 200 || faults[api.ErrDouble] < 12 {
		t.Errorf("%d valid, %v", valid, faults)
	}
	for kind := api.KindBlock; kind <= api.KindDynBin; kind++ {
		if kind != api.KindAs && nodes[kind] < 100 {
			t.Errorf("%d %s", nodes[kind], kinds()[kind])
		}
	}
}

// TestChangedAgree holds programs that are changed against the second reading.
func TestChangedAgree(t *testing.T) {
	t.Parallel()
	valid, faults := 0, map[api.Errno]int{}
	made(300, 100000, 77, func(m *maker, n api.Node) {
		for range 12 {
			x := m.changed(n)
			if m.may(4) {
				x = m.changed(x)
			}
			if _, f := holdPlain(t, x); f == (api.Fault{}) {
				valid++
			} else {
				faults[f.Err]++
			}
		}
	})
	if valid < 1500 || faults[api.ErrName] < 80 || faults[api.ErrType] < 250 || faults[api.ErrDouble] < 25 || faults[api.ErrForm] < 200 {
		t.Errorf("%d valid, %v", valid, faults)
	}
}

// TestMadeMemory holds that programs made by chance share no memory with their trees.
func TestMadeMemory(t *testing.T) {
	t.Parallel()
	made(200, 1000, 5, func(m *maker, n api.Node) { holdMemory(t, n) })
}
