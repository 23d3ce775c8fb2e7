package consist_test

import (
	"slices"
	"testing"

	"chaperon/api"
	"chaperon/consist"
	"chaperon/subtype"
	"chaperon/table"
)

// P7.3

// tables returns valid tables that are written out, and many that are made by chance.
func tables(t *testing.T) [][]api.Class {
	t.Helper()
	l := made(t)
	for _, text := range []string{"", six, "A me=A; B:A you=B; X me=X; Y me=Y you=Y", "A n=B x=?; B n=A x=?; C n=D x=?; D n=E x=int; E n=C x=str", ring("A", 3, "int") + ring("B", 2, "str")} {
		l = append(l, classes(text))
		holdValid(t, l[len(l)-1])
	}
	return l
}

// couplesOf returns all pairs of classes of a table.
func couplesOf(l []api.Class) []couple {
	var out []couple
	for _, s := range namesOf(l) {
		for _, u := range namesOf(l) {
			out = append(out, couple{s, u})
		}
	}
	return out
}

// isClosed reports whether the members of each pair of classes hold if all these pairs do.
func (p plain) isClosed(pairs []couple) bool {
	for _, x := range pairs {
		if !p.has(x.s, x.u) {
			return false
		}
		for _, next := range p.asks(x) {
			if !p.always(next) && !slices.Contains(pairs, next) {
				return false
			}
		}
	}
	return true
}

// TestClosedSets holds that all pairs of all closed sets go, and that all pairs that go are a closed set themselves.
func TestClosedSets(t *testing.T) {
	closed, longest := 0, 0
	for _, l := range tables(t) {
		p, all := plain{l}, couplesOf(l)
		var going []couple
		for _, x := range all {
			if consist.Goes(l, x.s, x.u) {
				going = append(going, x)
			}
		}
		if !p.isClosed(going) {
			t.Errorf("%v: %v go, but are no closed set", l, going)
		}
		if len(l) > 3 {
			continue
		}
		for set := range 1 << len(all) {
			var pairs []couple
			for i, x := range all {
				if set>>i&1 == 1 {
					pairs = append(pairs, x)
				}
			}
			if !p.isClosed(pairs) {
				continue
			}
			for _, x := range pairs {
				if !slices.Contains(going, x) {
					t.Errorf("%v: %v is in the closed set %v, but does not go", l, x, pairs)
				}
			}
			closed++
			longest = max(longest, len(pairs))
		}
	}
	if closed < 3000 || longest < 9 {
		t.Errorf("only %d closed sets, of at most %d pairs", closed, longest)
	}
}

// TestGoesAndHas holds that what goes to something has the members of it, if both are classes.
func TestGoesAndHas(t *testing.T) {
	for _, l := range tables(t) {
		for _, x := range couplesOf(l) {
			if consist.Goes(l, x.s, x.u) && !consist.Has(l, x.s, x.u) {
				t.Errorf("%v: %q goes to %q, and does not have its members", l, x.s, x.u)
			}
		}
	}
}

// TestHasIsOrder holds that a class has its own members, and what one has that it has the members of.
func TestHasIsOrder(t *testing.T) {
	for _, l := range tables(t) {
		if len(l) > 8 {
			continue
		}
		for _, x := range couplesOf(l) {
			holdHas(t, l, x.s, x.s, true)
			for _, w := range namesOf(l) {
				if consist.Has(l, x.s, x.u) && consist.Has(l, x.u, w) {
					holdHas(t, l, x.s, w, true)
				}
			}
		}
	}
}

// TestSubGoes holds that what is below something goes to it.
func TestSubGoes(t *testing.T) {
	below := 0
	for _, l := range tables(t) {
		for _, s := range typesOf(l) {
			for _, u := range typesOf(l) {
				if subtype.Sub(l, s, u) {
					holdGoes(t, l, s, u, true)
				}
				if s != u && subtype.Sub(l, s, u) {
					below++
				}
			}
		}
	}
	if below < 300 {
		t.Errorf("only %d classes below others", below)
	}
}

// softened returns tables in which one type of a member of one has become ?; of a method, in all classes that have one of that name.
func softened(l []api.Class) [][]api.Class {
	var out [][]api.Class
	for i, c := range l {
		for k := range c.Fields {
			next := copyOf(l)
			next[i].Fields[k].Type = "?"
			out = append(out, next)
		}
		for _, m := range c.Methods {
			for place := range len(m.Params) + 1 {
				next := copyOf(l)
				for _, other := range next {
					soften(other.Methods, m.Name, place)
				}
				out = append(out, next)
			}
		}
	}
	return out
}

// soften makes a type ? of the methods with that name: that of a parameter, or else of the result.
func soften(methods []api.Sig, name string, place int) {
	for i, m := range methods {
		if m.Name != name {
			continue
		}
		if place < len(m.Params) {
			m.Params[place].Type = "?"
		} else {
			methods[i].Result = "?"
		}
	}
}

// TestMoreDynamic holds that all that went still goes if a type becomes ?, whereby more may go.
func TestMoreDynamic(t *testing.T) {
	more := 0
	for _, l := range tables(t) {
		if len(l) > 4 {
			continue
		}
		for _, next := range softened(l) {
			if table.Check(next).Err != api.OK {
				t.Fatalf("%v is not valid", next)
			}
			for _, x := range couplesOf(l) {
				was, is := consist.Goes(l, x.s, x.u), consist.Goes(next, x.s, x.u)
				if was && !is {
					t.Errorf("%v: %v went in %v", next, x, l)
				}
				if is && !was {
					more++
				}
			}
		}
	}
	if more < 500 {
		t.Errorf("only %d pairs go that did not before", more)
	}
}

// TestDynamicInstead holds that ? goes to everything and everything to it, whatever it stands for.
func TestDynamicInstead(t *testing.T) {
	for _, l := range tables(t) {
		holdOthers(t, l)
		for _, x := range couplesOf(l) {
			if consist.Goes(l, x.s, x.u) && (!consist.Goes(l, "?", x.u) || !consist.Goes(l, x.s, "?")) {
				t.Errorf("%v: %v goes, but not with ? instead", l, x)
			}
		}
	}
}

// TestToBase holds that what goes to a base type is that type, or ?.
func TestToBase(t *testing.T) {
	for _, l := range tables(t) {
		for _, s := range append(typesOf(l), noTypes()...) {
			for _, b := range bases() {
				holdGoes(t, l, s, b, s == b || s == "?")
			}
		}
	}
}
