package subtype_test

import (
	"math/rand"
	"slices"
	"testing"

	"chaperon/api"
	"chaperon/table"
)

// plain is who is above whom in a valid table, at the places of its classes, each above itself.
type plain struct {
	names []string
	above [][]bool
}

// read goes from superclass to superclass until nothing changes.
func read(l []api.Class) plain {
	p := plain{names: namesOf(l)}
	for i := range l {
		p.above = append(p.above, make([]bool, len(l)))
		p.above[i][i] = true
	}
	for changed := true; changed; {
		changed = false
		for i, c := range l {
			for j := range l {
				if k := p.at(c.Super); k >= 0 && p.above[k][j] && !p.above[i][j] {
					p.above[i][j], changed = true, true
				}
			}
		}
	}
	return p
}

func (p plain) at(name string) int {
	return slices.Index(p.names, name)
}

func (p plain) isType(s string) bool {
	return slices.Contains(bases(), s) || p.at(s) >= 0
}

func (p plain) sub(s, u string) bool {
	i, j := p.at(s), p.at(u)
	if i < 0 || j < 0 {
		return s == u && p.isType(s)
	}
	return p.above[i][j]
}

// join returns, of all that is above both, what the most is above.
func (p plain) join(s, u string) string {
	if s == u && p.isType(s) {
		return s
	}
	best, most := "", 0
	for _, x := range p.names {
		if p.sub(s, x) && p.sub(u, x) && p.height(x) > most {
			best, most = x, p.height(x)
		}
	}
	return best
}

// height returns how much is above a class.
func (p plain) height(s string) int {
	n := 0
	for _, x := range p.names {
		if p.sub(s, x) {
			n++
		}
	}
	return n
}

func (p plain) below(s string) []string {
	var l []string
	for _, x := range p.names {
		if p.at(s) >= 0 && p.sub(x, s) {
			l = append(l, x)
		}
	}
	return l
}

// grow makes a valid table of n classes by chance, in any order: most classes have members, some of them again.
func grow(r *rand.Rand, n int) []api.Class {
	l := row(n)
	names := namesOf(l)
	for i := range l {
		c := &l[i]
		c.Super = ""
		if i > 0 && r.Intn(8) > 0 {
			// Many classes are below one of the last ones before them: so there are long lines.
			c.Super = names[max(0, i-1-r.Intn(1+r.Intn(i)))]
		}
		typ := func() string { return append(bases(), names...)[r.Intn(len(names)+6)] }
		own := string(rune('a'+i/10)) + string(rune('0'+i%10))
		if r.Intn(3) > 0 {
			c.Fields = []api.Var{{Name: "f" + own, Type: typ()}}
			c.Methods = []api.Sig{{Name: "m" + own, Params: []api.Var{{Name: "a", Type: typ()}, {Name: "b", Type: typ()}}, Result: typ()}}
		}
		for _, m := range table.Methods(l[:i], c.Super) {
			if r.Intn(4) == 0 && len(c.Methods) < 20 {
				again := api.Sig{Name: m.Name, Params: slices.Clone(m.Params), Result: m.Result}
				again.Params[0].Name = "c"
				c.Methods = append(c.Methods, again)
			}
		}
	}
	r.Shuffle(n, func(i, j int) { l[i], l[j] = l[j], l[i] })
	return l
}

// grown returns valid tables that are made by chance, always the same ones.
func grown(t *testing.T) [][]api.Class {
	t.Helper()
	r := rand.New(rand.NewSource(6))
	var tables [][]api.Class
	for i := range 300 {
		l := grow(r, i%9)
		if i%150 == 0 {
			l = grow(r, 16+i/15)
		}
		if f := table.Check(l); f.Err != api.OK {
			t.Fatalf("%v: the fault %v", l, f)
		}
		tables = append(tables, l)
	}
	return tables
}

// TestByChance holds all calls against a second reading of the chapter, for tables of all sizes.
func TestByChance(t *testing.T) {
	for _, l := range grown(t) {
		p := read(l)
		all := append(append(bases(), p.names...), "", "Y", "a")
		for _, s := range all {
			for _, u := range all {
				holdSub(t, l, s, u, p.sub(s, u))
				holdJoin(t, l, s, u, p.join(s, u))
			}
			holdBelow(t, l, s, p.below(s)...)
			holdLeaf(t, l, s, len(p.below(s)) == 1)
		}
		if t.Failed() {
			t.FailNow()
		}
	}
}

// TestSpoiltByChance holds that a table with one fault, of any sort, answers nothing.
func TestSpoiltByChance(t *testing.T) {
	r := rand.New(rand.NewSource(60))
	spoil := []func(*api.Class){
		func(c *api.Class) { c.Name = "c" },
		func(c *api.Class) { c.Super = "Y" },
		func(c *api.Class) { c.Super = c.Name },
		func(c *api.Class) { c.Fields = append(slices.Clone(c.Fields), vars(21)...) },
		func(c *api.Class) { c.Fields = append(slices.Clone(c.Fields), api.Var{Name: "x", Type: "Y"}) },
		func(c *api.Class) { c.Methods = append(slices.Clone(c.Methods), taking(vars(1)[0], vars(1)[0])) },
		func(c *api.Class) { c.Methods = append(slices.Clone(c.Methods), api.Sig{Name: "m"}) },
	}
	for _, l := range grown(t) {
		if len(l) == 0 {
			continue
		}
		names := namesOf(l)
		l = slices.Clone(l)
		spoil[r.Intn(len(spoil))](&l[r.Intn(len(l))])
		if table.Check(l).Err == api.OK {
			t.Fatalf("%v has no fault", l)
		}
		for _, s := range append(bases(), names...) {
			holdNothing(t, l, s, s)
			holdNothing(t, l, s, names[0])
			holdNoClass(t, l, s)
		}
	}
}
