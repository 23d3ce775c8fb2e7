package subtype_test

import (
	"slices"
	"testing"

	"chaperon/api"
	"chaperon/subtype"
	"chaperon/table"
)

// P6.3

// order is what Sub says of all types of a table.
type order struct {
	types []string
	sub   map[[2]string]bool
}

// ordered asks Sub of all pairs of types of a table.
func ordered(l []api.Class) order {
	o := order{append(bases(), namesOf(l)...), map[[2]string]bool{}}
	for _, s := range o.types {
		for _, u := range o.types {
			o.sub[[2]string{s, u}] = subtype.Sub(l, s, u)
		}
	}
	return o
}

func (o order) is(s, u string) bool {
	return o.sub[[2]string{s, u}]
}

// validTables returns tables that are written out, and many that are made by chance.
func validTables(t *testing.T) [][]api.Class {
	t.Helper()
	return append(grown(t), nil, five(), backward(five()), row(12), backward(row(12)), classes("R A:R B:A C:R D:C"))
}

// TestOrder holds that Sub is reflexive, antisymmetric and transitive.
func TestOrder(t *testing.T) {
	chains := 0
	for _, l := range validTables(t) {
		o := ordered(l)
		for _, s := range o.types {
			if !o.is(s, s) {
				t.Errorf("%v: %q is not below itself", l, s)
			}
			for _, u := range o.types {
				if s != u && o.is(s, u) && o.is(u, s) {
					t.Errorf("%v: %q and %q are below one another", l, s, u)
				}
				for _, w := range o.types {
					if o.is(s, u) && o.is(u, w) && !o.is(s, w) {
						t.Errorf("%v: %q is below %q, and that below %q", l, s, u, w)
					}
					if s != u && u != w && o.is(s, u) && o.is(u, w) {
						chains++
					}
				}
			}
		}
	}
	if chains < 1000 {
		t.Errorf("only %d times one below one below one", chains)
	}
}

// TestJoinIsLeast holds that a join is above both and below everything else that is, and that there is one if anything is.
func TestJoinIsLeast(t *testing.T) {
	found, none := 0, 0
	for _, l := range validTables(t) {
		o := ordered(l)
		for _, s := range o.types {
			for _, u := range o.types {
				join, is := subtype.Join(l, s, u)
				if back, has := subtype.Join(l, u, s); back != join || has != is {
					t.Errorf("%v: the join of %q and %q is %q, or %q", l, s, u, join, back)
				}
				if is && (!o.is(s, join) || !o.is(u, join)) {
					t.Errorf("%v: the join of %q and %q, %q, is not above both", l, s, u, join)
				}
				for _, w := range o.types {
					if o.is(s, w) && o.is(u, w) && (!is || !o.is(join, w)) {
						t.Errorf("%v: %q is above %q and %q, their join is %q %t", l, w, s, u, join, is)
					}
				}
				if is && join != s && join != u {
					found++
				}
				if !is {
					none++
				}
			}
		}
	}
	if found < 1000 || none < 1000 {
		t.Errorf("only %d joins above both, %d pairs without one", found, none)
	}
}

// TestBelowAndSub holds that a class is named below another one just if it is, and that a leaf has nothing but itself.
func TestBelowAndSub(t *testing.T) {
	for _, l := range validTables(t) {
		o := ordered(l)
		for _, s := range namesOf(l) {
			below := subtype.Below(l, s)
			for _, u := range namesOf(l) {
				if slices.Contains(below, u) != o.is(u, s) {
					t.Errorf("%v: below %q are %q", l, s, below)
				}
			}
			if subtype.Leaf(l, s) != (len(below) == 1) {
				t.Errorf("%v: %q is a leaf, or not: %q", l, s, below)
			}
		}
	}
}

// TestMembersBelow holds that a class that is below another one has its members, with the same types.
func TestMembersBelow(t *testing.T) {
	fields, methods := 0, 0
	for _, l := range validTables(t) {
		for _, s := range namesOf(l) {
			members := table.Members(l, s)
			for _, u := range subtype.Below(l, s) {
				for _, m := range members {
					if m.Arity < 0 {
						fields++
					} else {
						methods++
					}
					holdSameMember(t, l, s, u, m)
				}
			}
		}
	}
	if fields < 1000 || methods < 1000 {
		t.Errorf("only %d fields, %d methods", fields, methods)
	}
}

// holdSameMember holds that a class has a member of another one, with the same types.
func holdSameMember(t *testing.T, l []api.Class, above, below string, m api.Member) {
	t.Helper()
	if n, is := table.Arity(l, below, m.Name); !is || n != m.Arity {
		t.Errorf("%v: the arity of %q of %q: %d %t", l, m.Name, below, n, is)
	}
	typ, _ := table.Field(l, above, m.Name)
	if got, _ := table.Field(l, below, m.Name); got != typ {
		t.Errorf("%v: the field %q of %q: %q", l, m.Name, below, got)
	}
	of, _, _ := table.Method(l, above, m.Name)
	got, _, _ := table.Method(l, below, m.Name)
	same := func(v, w api.Var) bool { return v.Type == w.Type }
	if got.Result != of.Result || !slices.EqualFunc(got.Params, of.Params, same) {
		t.Errorf("%v: the method %q of %q: %v", l, m.Name, below, got)
	}
}
