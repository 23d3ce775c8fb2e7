package coerce_test

import (
	"math/rand"
	"slices"
	"strings"
	"testing"

	"chaperon/api"
	"chaperon/chain"
	"chaperon/coerce"
	"chaperon/table"
)

// plain is a second reading of the chapter, sentence by sentence, with a table.
type plain struct {
	l      []api.Class
	merged bool
}

// isClassName is a second reading of what a class name is.
func isClassName(s string) bool {
	const small = "abcdefghijklmnopqrstuvwxyz"
	return s != "" && len(s) <= 20 && s[0] >= 'A' && s[0] <= 'Z' && strings.Trim(s, small+strings.ToUpper(small)+"0123456789") == ""
}

// shows returns the members of an object's own class that the classes of all its layers have.
func (p plain) shows(v api.Value) []api.Member {
	if v.Tag != 7 {
		return nil
	}
	var l []api.Member
	for _, m := range table.Members(p.l, v.S) {
		lacks := func(x api.Layer) bool { return !slices.Contains(table.Members(p.l, x.Class), m) }
		if !slices.ContainsFunc(v.Chain, lacks) {
			l = append(l, m)
		}
	}
	return l
}

// wrapped returns an object with a layer more.
func (p plain) wrapped(v api.Value, x api.Layer) api.Value {
	if p.merged {
		v.Chain = chain.Add(v.Chain, x)
	} else {
		v.Chain = append(slices.Clone(v.Chain), x)
	}
	return v
}

func (p plain) leave(v api.Value, a string, label int) api.Value {
	if isClassName(a) && v.Tag == 7 {
		return p.wrapped(v, api.Layer{Class: a, Label: label})
	}
	return v
}

// enter returns the value that enters, and whether there is one.
func (p plain) enter(v api.Value, b string, label int) (api.Value, bool) {
	if b == "?" {
		return v, true
	}
	if tag := 1 + slices.Index([]string{"int", "real", "bool", "str", "unit"}, b); tag > 0 {
		return v, v.Tag == tag
	}
	if !isClassName(b) {
		return v, false
	}
	if v.Tag == 6 {
		return v, true
	}
	for _, m := range table.Members(p.l, b) {
		if !slices.Contains(p.shows(v), m) {
			return v, false
		}
	}
	return p.wrapped(v, api.Layer{Out: true, Class: b, Label: label}), v.Tag == 7
}

// typeOf returns the type of a member in a class: of a field, of a parameter, or, if there is no number, of a result.
func (p plain) typeOf(class, member string, param []int) (string, bool) {
	if s, is := table.Field(p.l, class, member); is {
		return s, true
	}
	m, _, is := table.Method(p.l, class, member)
	if len(param) == 0 {
		return m.Result, is
	}
	for i, v := range m.Params {
		if i == param[0] {
			return v.Type, true
		}
	}
	return "", false
}

// pass returns what passes through an object, and the label that is blamed, or 0.
func (p plain) pass(object, v api.Value, member string, param ...int) (api.Value, int) {
	if object.Tag != 7 {
		return v, 0
	}
	l, in := slices.Clone(object.Chain), len(param) > 0
	if in {
		slices.Reverse(l)
	}
	for _, x := range l {
		s, is := p.typeOf(x.Class, member, param)
		switch {
		case !is:
		case in && x.Out || !in && !x.Out:
			v = p.leave(v, s, x.Label)
		default:
			if v, is = p.enter(v, s, x.Label); !is {
				return api.Value{}, x.Label
			}
		}
	}
	return v, 0
}

// do does a call.
func (p plain) do(c call, v api.Value) (api.Value, int) {
	is := true
	switch c.what {
	case "leave":
		return p.leave(v, c.s, c.label), 0
	case "enter":
		v, is = p.enter(v, c.u, c.label)
	case "cast":
		v, is = p.enter(p.leave(v, c.s, -c.label), c.u, c.label)
	case "in":
		return p.pass(c.object, v, c.member, c.param)
	case "out":
		return p.pass(c.object, v, c.member)
	}
	if !is {
		return api.Value{}, c.label
	}
	return v, 0
}

// holdPlain holds a call against the second reading, with whole chains and with merged ones, and returns the label that is blamed.
func holdPlain(t *testing.T, c call, l []api.Class, v api.Value) int {
	t.Helper()
	blamed := 0
	for _, merged := range []bool{false, true} {
		want, label := plain{l, merged}.do(c, v)
		if got, n := guarded(t, c, l, v, merged); !equal(got, want) || n != label {
			t.Errorf("merged %t: %+v to %+v: %+v, %d, and not %+v, %d", merged, c, v, got, n, want, label)
		}
		blamed = label
	}
	if t.Failed() {
		t.Fatalf("of the table %+v", l)
	}
	return blamed
}

// holdShowsPlain holds what a value shows against the second reading.
func holdShowsPlain(t *testing.T, l []api.Class, v api.Value) {
	t.Helper()
	if got, want := coerce.Shows(l, v), (plain{l, false}).shows(v); !slices.Equal(got, want) {
		t.Fatalf("%+v shows %v, and not %v, of the table %+v", v, got, want, l)
	}
}

// small calls do with all chains of at most n layers of these classes, labelled from 11 on.
func small(n int, names []string, do func([]api.Layer)) {
	var grow func(l []api.Layer)
	grow = func(l []api.Layer) {
		do(slices.Clone(l))
		if len(l) == n {
			return
		}
		for _, s := range names {
			for _, out := range []bool{false, true} {
				grow(append(slices.Clone(l), api.Layer{Out: out, Class: s, Label: 11 + len(l)}))
			}
		}
	}
	grow(nil)
}

// tables returns some tables, valid ones and others.
func tables() []string {
	return []string{
		three, many,
		"A x=? m(?)?; B:A y=A; C x=int m(int)str",
		"A m(B)B; B:A n(A)A; C m(C)C n(A)?",
		"A x=int x=str m(int)A; B:B x=A; A m(str)B; C:D m(no)C x(C)int",
		"A:B x=A m(A,int)A; B:A x=B m(?)C; c x=A",
	}
}

// names returns the names of a table's classes, and some that it does not have.
func names(l []api.Class) []string {
	var out []string
	for _, c := range l {
		out = append(out, c.Name)
	}
	return append(out, "Other", "c")
}

// TestSmallPlain holds all calls on objects with all short chains against the second reading.
func TestSmallPlain(t *testing.T) {
	calls, blames := 0, 0
	for _, text := range tables() {
		l := classes(text)
		all := names(l)
		if len(all) > 6 {
			all = all[:6]
		}
		types := append(slices.Clone(all), "?", "int", "no")
		small(2, all, func(x []api.Layer) {
			for _, own := range all {
				v := api.Value{Tag: 7, N: 5, S: own, Chain: x}
				holdShowsPlain(t, l, v)
				for _, s := range types {
					calls += 2
					holdPlain(t, leaving(s, 9), l, v)
					if holdPlain(t, entering(s, -9), l, v) != 0 {
						blames++
					}
				}
			}
		})
	}
	if calls < 10000 || blames < 2000 || blames > calls-2000 {
		t.Errorf("%d calls, %d labels blamed", calls, blames)
	}
}

// TestSmallCasts holds all casts of objects with few layers.
func TestSmallCasts(t *testing.T) {
	for _, text := range tables() {
		l := classes(text)
		types := append(names(l), "?", "str", "no", "")
		small(1, names(l), func(x []api.Layer) {
			for _, s := range types {
				for _, u := range types {
					holdPlain(t, casting(s, u, 3), l, api.Value{Tag: 7, S: l[0].Name, Chain: x})
				}
			}
		})
		for _, v := range values() {
			for _, s := range types {
				for _, u := range types {
					holdPlain(t, casting(s, u, 3), l, v)
				}
			}
		}
	}
}

// TestSmallThrough holds what goes in and comes out through all short chains.
func TestSmallThrough(t *testing.T) {
	calls, blames := 0, 0
	for _, text := range tables() {
		l := classes(text)
		all := names(l)
		if len(all) > 5 {
			all = all[len(all)-5:]
		}
		small(3, all, func(x []api.Layer) {
			o := api.Value{Tag: 7, S: l[0].Name, Chain: x}
			for _, v := range []api.Value{value("int 3"), value("str a"), value("null"), {Tag: 7, S: l[0].Name}, {Tag: 7, S: l[1].Name, Chain: layers("oA3")}} {
				for _, c := range []call{inward(o, "m", 0), inward(o, "m", 1), inward(o, "x", 1), outward(o, "m"), outward(o, "x")} {
					calls++
					if holdPlain(t, c, l, v) != 0 {
						blames++
					}
				}
			}
		})
	}
	if calls < 50000 || blames < 5000 || blames > calls-5000 {
		t.Errorf("%d calls, %d labels blamed", calls, blames)
	}
}

// maker makes tables, values and calls by chance.
type maker struct {
	r *rand.Rand
	l []api.Class
}

func (m *maker) one(l ...string) string {
	return l[m.r.Intn(len(l))]
}

// typ returns a type, mostly that of a class; seldom what is none.
func (m *maker) typ() string {
	switch k := m.r.Intn(30); {
	case k < 22:
		return m.one("A", "B", "C", "D", "E", "F")
	case k < 27:
		return "?"
	case k < 28:
		return "int"
	}
	return m.one("int", "str", "Other", "no", "", "a", "unit", "bool")
}

// label returns a label, which is not 0.
func (m *maker) label() int {
	n := m.r.Intn(9) - 9
	if m.r.Intn(2) == 0 {
		n = -n
	}
	return n
}

// typed returns what a name stands for in a class: mostly the same sort of a member in all of them.
func (m *maker) typed(c *api.Class, name string) {
	field := strings.Contains("xy", name)
	if m.r.Intn(25) == 0 {
		field = !field
	}
	if field {
		c.Fields = append(c.Fields, api.Var{Name: name, Type: m.typ()})
		return
	}
	sig := api.Sig{Name: name, Result: m.typ()}
	n := 1
	if m.r.Intn(20) == 0 {
		n = m.r.Intn(3)
	}
	for range n {
		sig.Params = append(sig.Params, api.Var{Name: "p", Type: m.typ()})
	}
	c.Methods = append(c.Methods, sig)
}

// table makes another table of some classes with the same few names of members; some of them are not valid.
func (m *maker) table() {
	m.l = nil
	for i := range 6 {
		c := api.Class{Name: string(rune('A' + i))}
		if m.r.Intn(3) == 0 {
			c.Super = m.one("A", "B", "C", "D", "E", "F")
		}
		if m.r.Intn(40) == 0 {
			c.Name = m.one("A", "a", "Other")
		}
		for _, name := range []string{"x", "y", "m", "n"} {
			for m.r.Intn(5) > 1 {
				m.typed(&c, name)
				if m.r.Intn(9) > 0 {
					break
				}
			}
		}
		m.l = append(m.l, c)
	}
}

// chain returns at most n layers.
func (m *maker) chain(n int) []api.Layer {
	var l []api.Layer
	for range m.r.Intn(n + 1) {
		class := m.one("A", "B", "C", "D", "E", "F")
		if m.r.Intn(40) == 0 {
			class = m.one("Other", "a", "int", "?", "")
		}
		l = append(l, api.Layer{Out: m.r.Intn(2) == 0, Class: class, Label: m.label()})
	}
	return l
}

// object returns an object with at most n layers.
func (m *maker) object(n int) api.Value {
	return api.Value{Tag: 7, N: m.r.Intn(5), S: m.one("A", "B", "C", "D", "E", "F"), Chain: m.chain(n)}
}

// value returns a value: mostly an object with at most n layers.
func (m *maker) value(n int) api.Value {
	v := m.object(n)
	if m.r.Intn(4) == 0 {
		v.Tag = m.r.Intn(9)
	}
	return v
}

// call returns a call, which may be through an object with at most n layers.
func (m *maker) call(n int) call {
	return call{
		what:   m.one("leave", "enter", "cast", "in", "out"),
		s:      m.typ(),
		u:      m.typ(),
		label:  m.label(),
		object: m.value(n),
		member: m.one("x", "y", "m", "n"),
		param:  max(m.r.Intn(5)-3, 0),
	}
}

// TestChancePlain holds calls by chance against the second reading.
func TestChancePlain(t *testing.T) {
	m := &maker{r: rand.New(rand.NewSource(16))}
	calls, blames, grew := 0, 0, 0
	for i := range 4000 {
		m.table()
		for range 12 {
			n := 1 + i%17
			v, c := m.value(n), m.call(n)
			holdShowsPlain(t, m.l, v)
			label := holdPlain(t, c, m.l, v)
			calls++
			if label != 0 {
				blames++
			} else if got, _ := c.do(m.l, v, false); len(got.Chain) > len(v.Chain) {
				grew++
			}
		}
	}
	if blames < 5000 || grew < 5000 {
		t.Errorf("%d calls, %d labels blamed, %d chains that grew", calls, blames, grew)
	}
}
