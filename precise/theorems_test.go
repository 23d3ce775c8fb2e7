package precise_test

import (
	"slices"
	"testing"

	"chaperon/api"
	"chaperon/precise"
	"chaperon/subtype"
	"chaperon/table"
)

// P8.2

// tables returns valid tables that are written out, and many that are made by chance.
func tables(t *testing.T) [][]api.Class {
	t.Helper()
	l := made(t)
	for _, text := range []string{"", four, "A me=A; B:A you=B; X me=X; Y me=Y you=Y", "A n=B x=?; B n=A x=?; C n=D x=?; D n=E x=int; E n=C x=str", ring("A", 3, "int") + ring("B", 2, "?")} {
		l = append(l, classes(text))
		holdValid(t, l[len(l)-1])
	}
	return l
}

// couplesOf returns all pairs of classes of a table.
func couplesOf(l []api.Class) []couple {
	var out []couple
	for _, s := range namesOf(l) {
		for _, u := range namesOf(l) {
			out = append(out, couple{s, u})
		}
	}
	return out
}

// holding returns the pairs of types of a table of which the first one is as precise as the second one.
func holding(l []api.Class) map[couple]bool {
	out := map[couple]bool{}
	for _, s := range typesOf(l) {
		for _, u := range typesOf(l) {
			if precise.Precise(l, s, u) {
				out[couple{s, u}] = true
			}
		}
	}
	return out
}

// TestReflexive holds that each type is as precise as itself.
func TestReflexive(t *testing.T) {
	for _, l := range tables(t) {
		for _, s := range typesOf(l) {
			if !precise.Precise(l, s, s) || !precise.Same(l, s, s) || precise.More(l, s, s) != 0 {
				t.Errorf("%v: %q is not as precise as itself", l, s)
			}
		}
	}
}

// TestTransitive holds that what is as precise as something is as precise as all as which that is.
func TestTransitive(t *testing.T) {
	chains := 0
	for _, l := range tables(t) {
		holds := holding(l)
		for x := range holds {
			for _, w := range namesOf(l) {
				if !holds[couple{x.u, w}] {
					continue
				}
				if !holds[couple{x.s, w}] {
					t.Errorf("%v: %q is as precise as %q, and that as %q", l, x.s, x.u, w)
				}
				if x.s != x.u && x.u != w && x.s != w {
					chains++
				}
			}
		}
	}
	if chains < 500 {
		t.Errorf("only %d times three classes", chains)
	}
}

// TestMoreIsOrder holds that what is more precise than something is so than all than which that is, and never the other way round.
func TestMoreIsOrder(t *testing.T) {
	chains := 0
	for _, l := range tables(t) {
		if len(l) > 8 {
			continue
		}
		for _, x := range couplesOf(l) {
			if precise.More(l, x.s, x.u) != 1 {
				continue
			}
			if precise.More(l, x.u, x.s) != -1 || precise.More(l, x.s, "?") != 1 {
				t.Errorf("%v: %v", l, x)
			}
			for _, w := range namesOf(l) {
				if precise.More(l, x.u, w) != 1 {
					continue
				}
				if precise.More(l, x.s, w) != 1 {
					t.Errorf("%v: %v, and then %q", l, x, w)
				}
				chains++
			}
		}
	}
	if chains < 80 {
		t.Errorf("only %d times three classes", chains)
	}
}

// TestBelowIsPrecise holds that a class that is below another one is as precise as it.
func TestBelowIsPrecise(t *testing.T) {
	below := 0
	for _, l := range tables(t) {
		for _, x := range couplesOf(l) {
			if x.s == x.u || !subtype.Sub(l, x.s, x.u) {
				continue
			}
			if !precise.Precise(l, x.s, x.u) || precise.More(l, x.s, x.u) < 0 {
				t.Errorf("%v: %q is below %q, and not as precise", l, x.s, x.u)
			}
			below++
		}
	}
	if below < 300 {
		t.Errorf("only %d classes below others", below)
	}
}

// isClosed reports whether the members of each pair of classes satisfy the condition if all these pairs do.
func (p plain) isClosed(pairs []couple) bool {
	for _, x := range pairs {
		if !p.has(x) {
			return false
		}
		for _, next := range p.asks(x) {
			if !p.always(next) && !slices.Contains(pairs, next) {
				return false
			}
		}
	}
	return true
}

// TestClosedRelations holds that each closed relation is contained in that of what is as precise, and that this one is closed itself.
func TestClosedRelations(t *testing.T) {
	closed, longest := 0, 0
	for _, l := range tables(t) {
		p, all := plain{l: l}, couplesOf(l)
		var holding []couple
		for _, x := range all {
			if precise.Precise(l, x.s, x.u) {
				holding = append(holding, x)
			}
		}
		if !p.isClosed(holding) {
			t.Errorf("%v: %v are no closed relation", l, holding)
		}
		if len(l) > 3 {
			continue
		}
		for set := range 1 << len(all) {
			var pairs []couple
			for i, x := range all {
				if set>>i&1 == 1 {
					pairs = append(pairs, x)
				}
			}
			if !p.isClosed(pairs) {
				continue
			}
			for _, x := range pairs {
				if !slices.Contains(holding, x) {
					t.Errorf("%v: %v is in the closed relation %v, but does not hold", l, x, pairs)
				}
			}
			closed++
			longest = max(longest, len(pairs))
		}
	}
	if closed < 2000 || longest < 9 {
		t.Errorf("only %d closed relations, of at most %d pairs", closed, longest)
	}
}

// softened returns tables in which one type of a member of one has become ?; of a method, in all classes that have one of that name.
func softened(l []api.Class) [][]api.Class {
	var out [][]api.Class
	for i, c := range l {
		for k := range c.Fields {
			next := copyOf(l)
			next[i].Fields[k].Type = "?"
			out = append(out, next)
		}
		for _, m := range c.Methods {
			for place := range len(m.Params) + 1 {
				next := copyOf(l)
				for _, other := range next {
					soften(other.Methods, m.Name, place)
				}
				out = append(out, next)
			}
		}
	}
	return out
}

// soften makes a type ? of the methods with that name: that of a parameter, or else of the result.
func soften(methods []api.Sig, name string, place int) {
	for i, m := range methods {
		if m.Name != name {
			continue
		}
		if place < len(m.Params) {
			m.Params[place].Type = "?"
		} else {
			methods[i].Result = "?"
		}
	}
}

// beside returns a table together with another one of the same classes, whose names have an n behind them.
func beside(l, next []api.Class) []api.Class {
	name := func(s string) string {
		if slices.Contains(namesOf(next), s) {
			return s + "n"
		}
		return s
	}
	out := copyOf(next)
	for i := range out {
		c := &out[i]
		c.Name, c.Super = name(c.Name), name(c.Super)
		for k := range c.Fields {
			c.Fields[k].Type = name(c.Fields[k].Type)
		}
		for k := range c.Methods {
			m := &c.Methods[k]
			m.Result = name(m.Result)
			for p := range m.Params {
				m.Params[p].Type = name(m.Params[p].Type)
			}
		}
	}
	return append(slices.Clone(l), out...)
}

// TestMoreDynamic holds that each class of a table is as precise as what it becomes if a type of a member is replaced by ?.
func TestMoreDynamic(t *testing.T) {
	less, even := 0, 0
	for _, l := range tables(t) {
		if len(l) > 5 {
			continue
		}
		for _, next := range softened(l) {
			both := beside(l, next)
			holdValid(t, both)
			for _, s := range namesOf(l) {
				if !precise.Precise(both, s, s+"n") {
					t.Errorf("%v: %q is more precise than in %v", next, s, l)
				}
				if precise.More(both, s, s+"n") == 1 {
					less++
				} else {
					even++
				}
			}
		}
	}
	if less < 500 || even < 500 {
		t.Errorf("%d classes became less precise, %d did not", less, even)
	}
}

// leads returns a class and those to which its members lead.
func leads(l []api.Class, s string) []string {
	out := []string{s}
	for at := 0; at < len(out); at++ {
		var types []string
		for _, f := range table.Fields(l, out[at]) {
			types = append(types, f.Type)
		}
		for _, m := range table.Methods(l, out[at]) {
			types = append(types, m.Result)
			for _, p := range m.Params {
				types = append(types, p.Type)
			}
		}
		for _, typ := range types {
			if slices.Contains(namesOf(l), typ) && !slices.Contains(out, typ) {
				out = append(out, typ)
			}
		}
	}
	return out
}

// TestMoreDynamicThanOthers holds that no class becomes as precise as one that leads to nothing that was replaced by ?.
func TestMoreDynamicThanOthers(t *testing.T) {
	asked, lost := 0, 0
	for _, l := range tables(t) {
		if len(l) > 5 {
			continue
		}
		for _, next := range softened(l) {
			for _, x := range couplesOf(l) {
				if !unchanged(l, next, leads(l, x.u)) {
					continue
				}
				was, is := precise.Precise(l, x.s, x.u), precise.Precise(next, x.s, x.u)
				if is && !was {
					t.Errorf("%v: %v holds, and did not in %v", next, x, l)
				}
				if was && !is {
					lost++
				}
				asked++
			}
		}
	}
	if asked < 1000 || lost < 50 {
		t.Errorf("%d pairs asked, of which %d do not hold any more", asked, lost)
	}
}

// unchanged reports whether classes have the same members in two tables.
func unchanged(l, next []api.Class, names []string) bool {
	for _, s := range names {
		sameSig := func(a, b api.Sig) bool { return a.Result == b.Result && slices.Equal(a.Params, b.Params) }
		if !slices.Equal(table.Fields(l, s), table.Fields(next, s)) || !slices.EqualFunc(table.Methods(l, s), table.Methods(next, s), sameSig) {
			return false
		}
	}
	return true
}
