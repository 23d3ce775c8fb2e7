package table_test

import (
	"math/rand"
	"reflect"
	"slices"
	"testing"

	"chaperon/api"
	"chaperon/table"
)

// P5.4

// validTables returns tables without a fault: some that are written out, and many that are made by chance.
func validTables() [][]api.Class {
	l := [][]api.Class{two(), deep(), row(40)}
	m := maker{rand.New(rand.NewSource(54)), 40}
	for len(l) < 1000 {
		if t := m.table(); table.Check(t) == (api.Fault{}) && len(t) > 1 {
			l = append(l, t)
		}
	}
	return l
}

// TestOneMemberAName holds that no class has two members with one name.
func TestOneMemberAName(t *testing.T) {
	for _, l := range validTables() {
		for _, c := range l {
			seen := map[string]bool{}
			for _, m := range table.Members(l, c.Name) {
				if seen[m.Name] {
					t.Errorf("%v: two members %q of %q", l, m.Name, c.Name)
				}
				seen[m.Name] = true
			}
		}
	}
}

// TestInherits holds that a class has all members of its superclass, with the same arity and the same types.
func TestInherits(t *testing.T) {
	fields, methods := 0, 0
	for _, l := range validTables() {
		for _, c := range l {
			for _, m := range table.Members(l, c.Super) {
				if n, is := table.Arity(l, c.Name, m.Name); n != m.Arity || !is {
					t.Errorf("%v: the arity of %q of %q: %d %t", l, m.Name, c.Name, n, is)
				}
				if m.Arity < 0 {
					above, _ := table.Field(l, c.Super, m.Name)
					typ, is := table.Field(l, c.Name, m.Name)
					if !is || typ != above {
						t.Errorf("%v: the field %q of %q: %q %t", l, m.Name, c.Name, typ, is)
					}
					fields++
					continue
				}
				above, _, _ := table.Method(l, c.Super, m.Name)
				own, _, is := table.Method(l, c.Name, m.Name)
				if !is || !slices.Equal(types(own), types(above)) {
					t.Errorf("%v: the method %q of %q: %v %t", l, m.Name, c.Name, own, is)
				}
				methods++
			}
		}
	}
	if fields == 0 || methods == 0 {
		t.Errorf("%d fields, %d methods", fields, methods)
	}
}

// TestLineEnds holds that a line ends with a class that has no superclass, each class in it below the next one.
func TestLineEnds(t *testing.T) {
	for _, l := range validTables() {
		for _, c := range l {
			line := append(table.Supers(l, c.Name), "")
			if line[0] != c.Name {
				t.Errorf("%v: the line of %q begins with %q", l, c.Name, line[0])
			}
			for i, s := range line[:len(line)-1] {
				at, is := table.Find(l, s)
				if !is || l[at].Super != line[i+1] {
					t.Errorf("%v: the line of %q: %q", l, c.Name, line)
				}
			}
		}
	}
}

// TestAdditionalClass holds that a class more changes nothing for the others, wherever it stands.
func TestAdditionalClass(t *testing.T) {
	for k, l := range validTables() {
		if len(l) == 40 {
			continue
		}
		more := class("More", l[k%len(l)].Name, vars("more", "More"), sig("another", l[0].Name, "a", "?"))
		if k%3 == 0 {
			more.Super = ""
		}
		for at := 0; at <= len(l); at++ {
			longer := slices.Insert(slices.Clone(l), at, more)
			holdValid(t, "a class more", longer)
			for _, c := range l {
				holdSameClass(t, l, longer, c.Name)
			}
		}
	}
}

// holdSameClass holds that a class is the same in two tables.
func holdSameClass(t *testing.T, a, b []api.Class, name string) {
	t.Helper()
	if !slices.Equal(table.Supers(a, name), table.Supers(b, name)) || !slices.Equal(table.Fields(a, name), table.Fields(b, name)) ||
		!reflect.DeepEqual(table.Methods(a, name), table.Methods(b, name)) || !slices.Equal(table.Members(a, name), table.Members(b, name)) {
		t.Errorf("%v: %q is another one in %v", a, name, b)
	}
	for _, m := range table.Members(a, name) {
		typ, is := table.Field(b, name, m.Name)
		if want, ok := table.Field(a, name, m.Name); typ != want || is != ok {
			t.Errorf("%v: the field %q of %q: %q %t", b, m.Name, name, typ, is)
		}
		got, whose, is := table.Method(b, name, m.Name)
		if want, of, ok := table.Method(a, name, m.Name); !reflect.DeepEqual(got, want) || whose != of || is != ok {
			t.Errorf("%v: the method %q of %q: %v %q %t", b, m.Name, name, got, whose, is)
		}
		if n, is := table.Arity(b, name, m.Name); n != m.Arity || !is {
			t.Errorf("%v: the arity of %q of %q: %d %t", b, m.Name, name, n, is)
		}
	}
}
