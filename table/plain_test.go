package table_test

import (
	"math/rand"
	"slices"
	"testing"

	"chaperon/api"
	"chaperon/table"
	"chaperon/words"
)

// plain is a table, whose calls follow the chapter's words one by one, however long they take.
type plain []api.Class

func (p plain) at(name string) int {
	return slices.IndexFunc(p, func(c api.Class) bool { return c.Name == name })
}

// line returns the places of a class's line.
func (p plain) line(name string) []int {
	var l []int
	for at := p.at(name); at >= 0 && !slices.Contains(l, at); at = p.at(p[at].Super) {
		l = append(l, at)
	}
	return l
}

func (p plain) supers(name string) []string {
	var l []string
	for _, at := range p.line(name) {
		l = append(l, p[at].Name)
	}
	return l
}

func (p plain) fields(name string) []api.Var {
	var l []api.Var
	for _, at := range p.line(name) {
		l = append(slices.Clone(p[at].Fields), l...)
	}
	return l
}

func (p plain) methods(name string) []api.Sig {
	var l []api.Sig
	line := p.line(name)
	slices.Reverse(line)
	for _, at := range line {
		for _, m := range p[at].Methods {
			i := slices.IndexFunc(l, func(x api.Sig) bool { return x.Name == m.Name })
			if i < 0 {
				l = append(l, m)
			} else {
				l = slices.Replace(l, i, i+1, m)
			}
		}
	}
	return l
}

func (p plain) members(name string) []api.Member {
	var l []api.Member
	for _, f := range p.fields(name) {
		l = append(l, api.Member{Name: f.Name, Arity: -1})
	}
	for _, m := range p.methods(name) {
		l = append(l, api.Member{Name: m.Name, Arity: len(m.Params)})
	}
	return l
}

func (p plain) field(class, name string) (string, bool) {
	for _, f := range p.fields(class) {
		if f.Name == name {
			return f.Type, true
		}
	}
	return "", false
}

func (p plain) method(class, name string) (api.Sig, string, bool) {
	for _, at := range p.line(class) {
		for _, m := range p[at].Methods {
			if m.Name == name {
				return m, p[at].Name, true
			}
		}
	}
	return api.Sig{}, "", false
}

func (p plain) arity(class, name string) (int, bool) {
	for _, m := range p.members(class) {
		if m.Name == name {
			return m.Arity, true
		}
	}
	return 0, false
}

// check collects all faults of a table, in their order, and returns the first one.
func (p plain) check() api.Fault {
	if len(p) > 40 {
		return api.Fault{Err: api.ErrMany, At: 40}
	}
	for _, faults := range []func(int) []api.Errno{p.heads, p.above, p.within} {
		for at := range p {
			if l := faults(at); len(l) > 0 {
				return api.Fault{Err: l[0], At: at}
			}
		}
	}
	return api.Fault{}
}

// add adds an error to a list if it applies.
func add(l *[]api.Errno, applies bool, err api.Errno) {
	if applies {
		*l = append(*l, err)
	}
}

func (p plain) heads(at int) []api.Errno {
	var l []api.Errno
	c := p[at]
	add(&l, !words.Class(c.Name), api.ErrForm)
	add(&l, p.at(c.Name) < at, api.ErrDouble)
	add(&l, len(c.Fields) > 20, api.ErrMany)
	add(&l, len(c.Methods) > 20, api.ErrMany)
	for _, m := range c.Methods {
		add(&l, len(m.Params) > 8, api.ErrMany)
	}
	return l
}

func (p plain) above(at int) []api.Errno {
	var l []api.Errno
	c := p[at]
	add(&l, c.Super != "" && p.at(c.Super) < 0, api.ErrName)
	// As many steps as there are classes lead to all superclasses that there are.
	to := p.at(c.Super)
	for range p {
		if to < 0 {
			break
		}
		add(&l, to == at, api.ErrCycle)
		to = p.at(p[to].Super)
	}
	return l
}

// ofType adds what is wrong with a type.
func (p plain) ofType(l *[]api.Errno, s string) {
	add(l, !words.Type(s), api.ErrForm)
	add(l, words.Class(s) && p.at(s) < 0, api.ErrName)
}

// hasField reports whether one of some fields has that name.
func hasField(l []api.Var, name string) bool {
	return slices.ContainsFunc(l, func(v api.Var) bool { return v.Name == name })
}

func (p plain) within(at int) []api.Errno {
	var l []api.Errno
	c := p[at]
	above := p.fields(c.Super)
	for i, f := range c.Fields {
		add(&l, !words.Name(f.Name), api.ErrForm)
		p.ofType(&l, f.Type)
		_, _, isMethod := p.method(c.Super, f.Name)
		add(&l, hasField(c.Fields[:i], f.Name) || hasField(above, f.Name) || isMethod, api.ErrDouble)
	}
	for i, m := range c.Methods {
		add(&l, !words.Name(m.Name), api.ErrForm)
		for j, v := range m.Params {
			add(&l, !words.Name(v.Name), api.ErrForm)
			p.ofType(&l, v.Type)
			add(&l, hasField(m.Params[:j], v.Name), api.ErrDouble)
		}
		p.ofType(&l, m.Result)
		add(&l, slices.ContainsFunc(c.Methods[:i], func(x api.Sig) bool { return x.Name == m.Name }), api.ErrDouble)
		add(&l, hasField(c.Fields, m.Name) || hasField(above, m.Name), api.ErrDouble)
		if over, _, is := p.method(c.Super, m.Name); is {
			add(&l, !slices.Equal(types(over), types(m)), api.ErrOverride)
		}
	}
	return l
}

// types returns the types of a method, its result's last.
func types(m api.Sig) []string {
	var l []string
	for _, v := range m.Params {
		l = append(l, v.Type)
	}
	return append(l, m.Result)
}

// maker makes tables by chance, always the same ones: of wrong things there is one among so many.
type maker struct {
	*rand.Rand
	wrong int
}

// one returns one of some texts, and now and then a wrong one.
func (m maker) one(right, wrong []string) string {
	if m.wrong > 0 && m.Intn(m.wrong) == 0 {
		return wrong[m.Intn(len(wrong))]
	}
	return right[m.Intn(len(right))]
}

func (m maker) typ(classes []string) string {
	return m.one(append([]string{"int", "?", "str"}, classes...), []string{"", "x", "X", "Int", "A ", "class"})
}

// vars makes variables, each name the next one of some, now and then one that has been.
func (m maker) vars(n int, names, classes []string) []api.Var {
	var l []api.Var
	for i := range n {
		l = append(l, api.Var{Name: m.one(names[i:i+1], append([]string{"", "A", "if"}, names...)), Type: m.typ(classes)})
	}
	return l
}

func (m maker) class(i int, classes []string) api.Class {
	supers := []string{""}
	if i > 0 {
		supers = append(supers, classes[:i]...)
		supers = append(supers, classes[i-1], classes[i-1])
	}
	c := api.Class{Name: m.one(classes[i:i+1], []string{"", "a", "A", "B", "A?"}), Super: m.one(supers, []string{"X", "A", "B", "C", "D", "int"})}
	own := classes[i]
	c.Fields = m.vars(m.Intn(3), []string{"x" + own, "y" + own, "z"}, classes)
	for j := range m.Intn(4) {
		name := m.one([]string{"m", "n", "o"}[j:j+1], []string{"", "A", "z", "m", "n", "xA", "yB"})
		c.Methods = append(c.Methods, api.Sig{Name: name, Params: m.vars(m.Intn(3), []string{"a", "b", "c"}, classes), Result: m.typ(classes)})
	}
	return c
}

// table makes a table of at most four classes, in any order. A method that is declared again is mostly of the types above.
func (m maker) table() []api.Class {
	classes := []string{"A", "B", "C", "D"}[:m.Intn(5)]
	var t []api.Class
	for i := range classes {
		c := m.class(i, classes)
		for j, own := range c.Methods {
			if over, _, is := plain(t).method(c.Super, own.Name); is && m.Intn(20) > 0 {
				c.Methods[j].Params, c.Methods[j].Result = slices.Clone(over.Params), over.Result
			}
		}
		t = append(t, c)
	}
	m.Shuffle(len(t), func(i, j int) { t[i], t[j] = t[j], t[i] })
	return t
}

// TestByChance holds all calls against the chapter's words, for tables with faults of all sorts, and without.
func TestByChance(t *testing.T) {
	seen := map[api.Errno]int{}
	for _, wrong := range []int{0, 3, 10, 30, 100} {
		m := maker{rand.New(rand.NewSource(int64(wrong))), wrong}
		for range 4000 {
			l := m.table()
			want := plain(l).check()
			seen[want.Err]++
			if got := table.Check(l); got != want {
				t.Fatalf("%v: fault %v, not %v", l, got, want)
			}
			holdAgainst(t, l)
		}
	}
	for _, err := range []api.Errno{api.OK, api.ErrForm, api.ErrName, api.ErrDouble, api.ErrCycle, api.ErrOverride} {
		if seen[err] < 100 {
			t.Errorf("error %d only %d times", err, seen[err])
		}
	}
}

// holdAgainst holds what a table's classes have against the chapter's words.
func holdAgainst(t *testing.T, l []api.Class) {
	t.Helper()
	p := plain(l)
	asked := []string{"", "m", "n", "z", "xA", "yB", "q"}
	for _, s := range []string{"A", "B", "C", "D", "", "a", "X"} {
		at := p.at(s)
		holdFind(t, l, s, max(at, 0), at >= 0)
		holdSupers(t, l, s, p.supers(s)...)
		if got := table.Fields(l, s); !slices.Equal(got, p.fields(s)) {
			t.Errorf("%v: Fields %q: %v", l, s, got)
		}
		holdMethods(t, l, s, p.methods(s)...)
		holdMembers(t, l, s, p.members(s)...)
		for _, name := range asked {
			typ, is := p.field(s, name)
			holdField(t, l, s, name, typ, is)
			m, whose, is := p.method(s, name)
			holdMethod(t, l, s, name, m, whose, is)
			n, is := p.arity(s, name)
			holdArity(t, l, s, name, n, is)
		}
	}
	if t.Failed() {
		t.Fatalf("the table: %v", l)
	}
}
