package precise_test

import (
	"math/rand"
	"slices"
	"strconv"
	"testing"

	"chaperon/api"
	"chaperon/subtype"
	"chaperon/table"
)

// couple is a type, and one as which it is as precise, or is not.
type couple struct{ s, u string }

// plain is a valid table, whose chapter is read once more: all pairs of types hold at first; those that do not if all others do are taken away at once, again and again.
type plain struct {
	l     []api.Class
	holds map[couple]bool
}

// newPlain returns what the chapter says of a valid table.
func newPlain(l []api.Class) plain {
	p := plain{l, map[couple]bool{}}
	for _, s := range typesOf(l) {
		for _, u := range typesOf(l) {
			p.holds[couple{s, u}] = true
		}
	}
	for {
		next := map[couple]bool{}
		for x := range p.holds {
			if p.stays(x) {
				next[x] = true
			}
		}
		if len(next) == len(p.holds) {
			return p
		}
		p.holds = next
	}
}

func (p plain) isClass(s string) bool {
	return slices.Contains(namesOf(p.l), s)
}

// always reports whether a type is as precise as another one, whatever they have.
func (p plain) always(x couple) bool {
	return x.s == x.u || x.u == "?"
}

// has reports whether both are classes, and each member of the second one is one of the first one.
func (p plain) has(x couple) bool {
	if !p.isClass(x.s) || !p.isClass(x.u) {
		return false
	}
	own := table.Members(p.l, x.s)
	for _, m := range table.Members(p.l, x.u) {
		if !slices.Contains(own, m) {
			return false
		}
	}
	return true
}

// asks returns what has to hold if one class is as precise as another one, of which it has the members.
func (p plain) asks(x couple) []couple {
	var l []couple
	for _, theirs := range table.Fields(p.l, x.u) {
		own, _ := table.Field(p.l, x.s, theirs.Name)
		l = append(l, couple{own, theirs.Type})
	}
	for _, theirs := range table.Methods(p.l, x.u) {
		own, _, _ := table.Method(p.l, x.s, theirs.Name)
		l = append(l, couple{own.Result, theirs.Result})
		for i := range theirs.Params {
			l = append(l, couple{own.Params[i].Type, theirs.Params[i].Type})
		}
	}
	return l
}

// stays reports whether a pair holds if those hold that are left.
func (p plain) stays(x couple) bool {
	if p.always(x) {
		return true
	}
	return p.has(x) && !slices.ContainsFunc(p.asks(x), func(next couple) bool { return !p.holds[next] })
}

// first reports whether nothing speaks against a pair at first: other pairs of classes may do.
func (p plain) first(x couple) bool {
	return p.has(x) && !slices.ContainsFunc(p.asks(x), func(next couple) bool { return !p.always(next) && !p.has(next) })
}

// maker makes tables by chance.
type maker struct{ r *rand.Rand }

// typ returns a type: mostly a class or ?, so that much holds.
func (m maker) typ(n int) string {
	switch k := m.r.Intn(20); {
	case k < 9:
		return "?"
	case k < 19:
		return "C" + strconv.Itoa(m.r.Intn(n))
	}
	return bases()[m.r.Intn(5)]
}

// own returns the members that a class has beside its superclass's, of few names.
func (m maker) own(c *api.Class, above []api.Class, n int) {
	for _, name := range []string{"x", "y", "z"} {
		_, is := table.Arity(above, c.Super, name)
		if sig, _, again := table.Method(above, c.Super, name); again && m.r.Intn(3) == 0 {
			c.Methods = append(c.Methods, sig)
		}
		if is || m.r.Intn(5) == 0 {
			continue
		}
		// The same name is mostly the same sort of a member in all classes.
		if name == "x" != (m.r.Intn(15) == 0) {
			c.Fields = append(c.Fields, api.Var{Name: name, Type: m.typ(n)})
			continue
		}
		sig := api.Sig{Name: name, Result: m.typ(n)}
		arity := 1
		if name == "z" {
			arity = 0
		}
		if m.r.Intn(15) == 0 {
			arity = m.r.Intn(4)
		}
		for range arity {
			sig.Params = append(sig.Params, api.Var{Name: "p" + strconv.Itoa(len(sig.Params)), Type: m.typ(n)})
		}
		c.Methods = append(c.Methods, sig)
	}
}

// table makes a valid table of n classes, in any order.
func (m maker) table(n int) []api.Class {
	var l []api.Class
	for i := range n {
		c := api.Class{Name: "C" + strconv.Itoa(i)}
		if i > 0 && m.r.Intn(4) == 0 {
			c.Super = "C" + strconv.Itoa(m.r.Intn(i))
		}
		m.own(&c, l, n)
		l = append(l, c)
	}
	m.r.Shuffle(n, func(i, k int) { l[i], l[k] = l[k], l[i] })
	return l
}

// made returns valid tables that are made by chance, always the same ones.
func made(t *testing.T) [][]api.Class {
	t.Helper()
	m := maker{rand.New(rand.NewSource(8))}
	var tables [][]api.Class
	for i := range 600 {
		n := i % 8
		if i%200 == 0 {
			n = 20
		}
		l := m.table(n)
		holdValid(t, l)
		tables = append(tables, l)
	}
	return tables
}

// TestByChance holds all calls against a second reading of the chapter, for tables of all sizes.
func TestByChance(t *testing.T) {
	more, same, later, not := 0, 0, 0, 0
	for _, l := range made(t) {
		p := newPlain(l)
		all := append(typesOf(l), "", "Zz", "a")
		for i, s := range all {
			for _, u := range all[i:] {
				there, back := p.holds[couple{s, u}], p.holds[couple{u, s}]
				holdPair(t, l, s, u, there, back)
				switch {
				case subtype.Sub(l, s, u) || subtype.Sub(l, u, s) || !p.isClass(s) || !p.isClass(u):
				case there && back:
					same++
				case there || back:
					more++
				case p.first(couple{s, u}) || p.first(couple{u, s}):
					later++
				default:
					not++
				}
			}
		}
		if t.Failed() {
			t.FailNow()
		}
	}
	if more < 500 || same < 30 || later < 200 || not < 500 {
		t.Errorf("%d pairs of classes of which one is more precise, %d of the same, %d of which none is because of other pairs, %d by themselves", more, same, later, not)
	}
}

// TestAllSmall holds all tables of two classes that have a field and a method of one parameter, or one of both.
func TestAllSmall(t *testing.T) {
	types := []string{"int", "str", "?", "A", "B"}
	var bodies []string
	for _, field := range append([]string{""}, types...) {
		for _, param := range append([]string{""}, types...) {
			text := ""
			if field != "" {
				text += " x=" + field
			}
			if param != "" {
				text += " m(" + param + ")" + types[(len(bodies)*3+1)%len(types)]
			}
			bodies = append(bodies, text)
		}
	}
	for _, a := range bodies {
		for _, b := range bodies {
			l := classes("A" + a + "; B" + b)
			holdValid(t, l)
			p := newPlain(l)
			holdPair(t, l, "A", "B", p.holds[couple{"A", "B"}], p.holds[couple{"B", "A"}])
		}
	}
}

// TestSpoiltByChance holds that a table with one fault, of any sort, answers nothing.
func TestSpoiltByChance(t *testing.T) {
	r := rand.New(rand.NewSource(80))
	spoil := []func(*api.Class){
		func(c *api.Class) { c.Name = "c" },
		func(c *api.Class) { c.Super = "Y" },
		func(c *api.Class) { c.Super = c.Name },
		func(c *api.Class) { c.Fields = append(c.Fields, classes("Z " + many(21, "v%=int "))[0].Fields...) },
		func(c *api.Class) { c.Fields = append(c.Fields, api.Var{Name: "v", Type: "Y"}) },
		func(c *api.Class) { c.Methods = append(c.Methods, api.Sig{Name: "v"}) },
		func(c *api.Class) { c.Methods = append(c.Methods, classes("Z v(a=int,a=int)int")[0].Methods...) },
	}
	for _, l := range made(t) {
		if len(l) == 0 {
			continue
		}
		names := namesOf(l)
		spoil[r.Intn(len(spoil))](&l[r.Intn(len(l))])
		if table.Check(l).Err == api.OK {
			t.Fatalf("%v has no fault", l)
		}
		for _, s := range append(typesOf(l), names...) {
			holdNothing(t, l, s, s)
			holdNothing(t, l, s, "?")
			holdNothing(t, l, s, names[0])
		}
	}
}
