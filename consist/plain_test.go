package consist_test

import (
	"math/rand"
	"slices"
	"strconv"
	"testing"

	"chaperon/api"
	"chaperon/table"
)

// couple is a type, and one to which it goes, or does not.
type couple struct{ s, u string }

// plain is a valid table, whose chapter is read once more: a type goes if no way from members to members ends with something that does not.
type plain struct{ l []api.Class }

func (p plain) isClass(s string) bool {
	return slices.Contains(namesOf(p.l), s)
}

func (p plain) isType(s string) bool {
	return slices.Contains(typesOf(p.l), s)
}

func (p plain) has(s, u string) bool {
	if !p.isClass(s) || !p.isClass(u) {
		return false
	}
	own := table.Members(p.l, s)
	for _, m := range table.Members(p.l, u) {
		if !slices.Contains(own, m) {
			return false
		}
	}
	return true
}

// goes follows all ways from a pair, until one ends, or nothing new is found.
func (p plain) goes(s, u string) bool {
	todo := []couple{{s, u}}
	for at := 0; at < len(todo); at++ {
		x := todo[at]
		if !p.isType(x.s) || !p.isType(x.u) {
			return false
		}
		if p.always(x) {
			continue
		}
		if !p.has(x.s, x.u) {
			return false
		}
		for _, next := range p.asks(x) {
			if !slices.Contains(todo, next) {
				todo = append(todo, next)
			}
		}
	}
	return true
}

// always reports whether a type goes to another one, whatever they have.
func (p plain) always(x couple) bool {
	return x.s == x.u || x.s == "?" || x.u == "?" || slices.Contains(table.Supers(p.l, x.s), x.u)
}

// asks returns what has to go if one class goes to another one, of which it has the members.
func (p plain) asks(x couple) []couple {
	var l []couple
	for _, theirs := range table.Fields(p.l, x.u) {
		own, _ := table.Field(p.l, x.s, theirs.Name)
		l = append(l, couple{own, theirs.Type}, couple{theirs.Type, own})
	}
	for _, theirs := range table.Methods(p.l, x.u) {
		own, _, _ := table.Method(p.l, x.s, theirs.Name)
		l = append(l, couple{own.Result, theirs.Result})
		for i := range theirs.Params {
			l = append(l, couple{theirs.Params[i].Type, own.Params[i].Type})
		}
	}
	return l
}

// maker makes tables by chance.
type maker struct{ r *rand.Rand }

// typ returns a type: mostly a class or ?, so that much goes.
func (m maker) typ(n int) string {
	switch k := m.r.Intn(10); {
	case k < 3:
		return "?"
	case k < 9:
		return "C" + strconv.Itoa(m.r.Intn(n))
	}
	return bases()[m.r.Intn(5)]
}

// own returns the members that a class has beside its superclass's, of few names.
func (m maker) own(c *api.Class, above []api.Class, n int) {
	for _, name := range []string{"x", "y", "z"} {
		_, is := table.Arity(above, c.Super, name)
		if sig, _, again := table.Method(above, c.Super, name); again && m.r.Intn(3) == 0 {
			c.Methods = append(c.Methods, sig)
		}
		if is || m.r.Intn(8) == 0 {
			continue
		}
		// The same name is mostly the same sort of a member in all classes.
		if name == "x" != (m.r.Intn(15) == 0) {
			c.Fields = append(c.Fields, api.Var{Name: name, Type: m.typ(n)})
			continue
		}
		sig := api.Sig{Name: name, Result: m.typ(n)}
		arity := len(name + name)
		if name == "z" {
			arity = 1
		}
		if m.r.Intn(15) == 0 {
			arity = m.r.Intn(4)
		}
		for range arity {
			sig.Params = append(sig.Params, api.Var{Name: "p" + strconv.Itoa(len(sig.Params)), Type: m.typ(n)})
		}
		c.Methods = append(c.Methods, sig)
	}
}

// table makes a valid table of n classes, in any order.
func (m maker) table(n int) []api.Class {
	var l []api.Class
	for i := range n {
		c := api.Class{Name: "C" + strconv.Itoa(i)}
		if i > 0 && m.r.Intn(4) == 0 {
			c.Super = "C" + strconv.Itoa(m.r.Intn(i))
		}
		m.own(&c, l, n)
		l = append(l, c)
	}
	m.r.Shuffle(n, func(i, k int) { l[i], l[k] = l[k], l[i] })
	return l
}

// made returns valid tables that are made by chance, always the same ones.
func made(t *testing.T) [][]api.Class {
	t.Helper()
	m := maker{rand.New(rand.NewSource(7))}
	var tables [][]api.Class
	for i := range 600 {
		n := i % 8
		if i%200 == 0 {
			n = 20
		}
		l := m.table(n)
		holdValid(t, l)
		tables = append(tables, l)
	}
	return tables
}

// TestByChance holds both calls against a second reading of the chapter, for tables of all sizes.
func TestByChance(t *testing.T) {
	going, later, not := 0, 0, 0
	for _, l := range made(t) {
		p := plain{l}
		all := append(typesOf(l), "", "Zz", "a")
		for _, s := range all {
			for _, u := range all {
				has, goes := p.has(s, u), p.goes(s, u)
				holdHas(t, l, s, u, has)
				holdGoes(t, l, s, u, goes)
				switch {
				case !has || p.always(couple{s, u}):
				case goes:
					going++
				case p.first(couple{s, u}):
					later++
				default:
					not++
				}
			}
		}
		if t.Failed() {
			t.FailNow()
		}
	}
	if going < 500 || later < 300 || not < 500 {
		t.Errorf("%d pairs of classes go, %d do not because of other pairs, %d by themselves", going, later, not)
	}
}

// first reports whether nothing speaks against a pair of classes at first: other pairs of classes may do.
func (p plain) first(x couple) bool {
	for _, next := range p.asks(x) {
		if !p.always(next) && !p.has(next.s, next.u) {
			return false
		}
	}
	return true
}

// TestSpoiltByChance holds that a table with one fault, of any sort, answers nothing.
func TestSpoiltByChance(t *testing.T) {
	r := rand.New(rand.NewSource(70))
	spoil := []func(*api.Class){
		func(c *api.Class) { c.Name = "c" },
		func(c *api.Class) { c.Super = "Y" },
		func(c *api.Class) { c.Super = c.Name },
		func(c *api.Class) { c.Fields = append(c.Fields, classes("Z " + many(21, "v%=int "))[0].Fields...) },
		func(c *api.Class) { c.Fields = append(c.Fields, api.Var{Name: "v", Type: "Y"}) },
		func(c *api.Class) { c.Methods = append(c.Methods, api.Sig{Name: "v"}) },
		func(c *api.Class) { c.Methods = append(c.Methods, classes("Z v(a=int,a=int)int")[0].Methods...) },
	}
	for _, l := range made(t) {
		if len(l) == 0 {
			continue
		}
		names := namesOf(l)
		spoil[r.Intn(len(spoil))](&l[r.Intn(len(l))])
		if table.Check(l).Err == api.OK {
			t.Fatalf("%v has no fault", l)
		}
		for _, s := range append(typesOf(l), names...) {
			holdNothing(t, l, s, s)
			holdNothing(t, l, s, "?")
			holdNothing(t, l, s, names[0])
		}
	}
}
