package subtype_test

import (
	"reflect"
	"slices"
	"strings"
	"testing"

	"chaperon/api"
	"chaperon/subtype"
	"chaperon/table"
)

// classes makes a table of classes without members, each written as its name, or with its superclass behind a colon.
func classes(text string) []api.Class {
	var t []api.Class
	for _, s := range strings.Fields(text) {
		name, super, _ := strings.Cut(s, ":")
		t = append(t, api.Class{Name: name, Super: super})
	}
	return t
}

// five returns the chapter's table.
func five() []api.Class {
	return classes("A B:A C:A D:B X")
}

// bases returns the types that every table has.
func bases() []string {
	return []string{"int", "real", "bool", "str", "unit", "?"}
}

// noTypes returns texts that are no types, and names of classes that no table here has.
func noTypes() []string {
	return []string{
		"", " ", "a", "b", "x", "Int", "INT", "int ", " int", "integer", "in", "boolean", "string", "len", "class", "none", "this", "null", "object", "Object",
		"??", "? ", "?A", "A?", "A ", " A", "A B", "A:B", "AB", "Aa", "AA", "A1", "A\x00", "1", "0", "-", "Y", "é", "\xff",
		strings.Repeat("A", 20), strings.Repeat("A", 21), strings.Repeat("A", 1000),
	}
}

// namesOf returns the names of the classes of a table.
func namesOf(l []api.Class) []string {
	var out []string
	for _, c := range l {
		out = append(out, c.Name)
	}
	return out
}

// row returns n classes on one line, each below the one before it.
func row(n int) []api.Class {
	var t []api.Class
	super := ""
	for i := range n {
		name := "C" + string(rune('a'+i/10)) + string(rune('0'+i%10))
		t = append(t, api.Class{Name: name, Super: super})
		super = name
	}
	return t
}

// inAllOrders calls f with each order of a table of few classes.
func inAllOrders(l []api.Class, f func([]api.Class)) {
	var place func(done, rest []api.Class)
	place = func(done, rest []api.Class) {
		if len(rest) == 0 {
			f(slices.Clone(done))
		}
		for i := range rest {
			place(append(slices.Clone(done), rest[i]), slices.Delete(slices.Clone(rest), i, i+1))
		}
	}
	place(nil, l)
}

func holdSub(t *testing.T, l []api.Class, s, u string, want bool) {
	t.Helper()
	if got := subtype.Sub(l, s, u); got != want {
		t.Errorf("%v: Sub %q %q: %t", l, s, u, got)
	}
}

// holdJoin holds the join of two types, either way round; an empty one means that they have none.
func holdJoin(t *testing.T, l []api.Class, s, u, want string) {
	t.Helper()
	for range 2 {
		if got, is := subtype.Join(l, s, u); got != want || is != (want != "") {
			t.Errorf("%v: Join %q %q: %q %t, not %q", l, s, u, got, is, want)
		}
		s, u = u, s
	}
}

func holdBelow(t *testing.T, l []api.Class, s string, want ...string) {
	t.Helper()
	if got := subtype.Below(l, s); !slices.Equal(got, want) {
		t.Errorf("%v: Below %q: %q, not %q", l, s, got, want)
	}
}

func holdLeaf(t *testing.T, l []api.Class, s string, want bool) {
	t.Helper()
	if got := subtype.Leaf(l, s); got != want {
		t.Errorf("%v: Leaf %q: %t", l, s, got)
	}
}

// holdNothing holds that a type has nothing to do with another one: it is not below it, and they have no join.
func holdNothing(t *testing.T, l []api.Class, s, u string) {
	t.Helper()
	holdSub(t, l, s, u, false)
	holdSub(t, l, u, s, false)
	holdJoin(t, l, s, u, "")
}

// holdNoClass holds that nothing is below a text that is no class, and that it is no leaf.
func holdNoClass(t *testing.T, l []api.Class, s string) {
	t.Helper()
	holdBelow(t, l, s)
	holdLeaf(t, l, s, false)
}

// P6.1

func TestSubExamples(t *testing.T) {
	l := five()
	holdSub(t, l, "D", "A", true)
	holdSub(t, l, "A", "D", false)
	holdSub(t, l, "A", "A", true)
	holdSub(t, l, "int", "int", true)
	holdSub(t, l, "A", "?", false)
	holdSub(t, l, "Y", "Y", false)
}

func TestJoinExamples(t *testing.T) {
	l := five()
	holdJoin(t, l, "D", "C", "A")
	holdJoin(t, l, "C", "D", "A")
	holdJoin(t, l, "D", "B", "B")
	holdJoin(t, l, "A", "X", "")
	holdJoin(t, l, "int", "int", "int")
	holdJoin(t, l, "int", "?", "")
	holdJoin(t, l, "?", "?", "?")
}

// TestAllPairs holds the chapter's table in each order of its classes.
func TestAllPairs(t *testing.T) {
	above := map[string]string{"A": "A", "B": "BA", "C": "CA", "D": "DBA", "X": "X"}
	joins := map[string]string{
		"AA": "A", "AB": "A", "AC": "A", "AD": "A", "AX": "",
		"BB": "B", "BC": "A", "BD": "B", "BX": "",
		"CC": "C", "CD": "A", "CX": "",
		"DD": "D", "DX": "",
		"XX": "X",
	}
	inAllOrders(five(), func(l []api.Class) {
		for s, line := range above {
			for u := range above {
				holdSub(t, l, s, u, strings.Contains(line, u))
			}
		}
		for pair, join := range joins {
			holdJoin(t, l, pair[:1], pair[1:], join)
		}
	})
}

// TestLines holds lines of one, two, three and four classes.
func TestLines(t *testing.T) {
	holdSub(t, classes("A"), "A", "A", true)
	holdJoin(t, classes("A"), "A", "A", "A")
	for _, text := range []string{"A B:A", "B:A A"} {
		l := classes(text)
		holdSub(t, l, "B", "A", true)
		holdSub(t, l, "A", "B", false)
		holdJoin(t, l, "A", "B", "A")
		holdJoin(t, l, "B", "B", "B")
	}
	names := []string{"A", "B", "C", "D"}
	inAllOrders(classes("A B:A C:B D:C"), func(l []api.Class) {
		for i, s := range names {
			for j, u := range names {
				holdSub(t, l, s, u, i >= j)
				holdJoin(t, l, s, u, names[min(i, j)])
			}
		}
	})
}

// TestTwoLines holds pairs on one line and on two, which meet or do not.
func TestTwoLines(t *testing.T) {
	inAllOrders(classes("R A:R B:A C:R D:C"), func(l []api.Class) {
		for _, s := range []string{"A", "B"} {
			for _, u := range []string{"C", "D"} {
				holdSub(t, l, s, u, false)
				holdSub(t, l, u, s, false)
				holdJoin(t, l, s, u, "R")
			}
		}
		holdJoin(t, l, "A", "B", "A")
		holdJoin(t, l, "C", "D", "C")
	})
	inAllOrders(classes("A B:A C:B X Y:X"), func(l []api.Class) {
		for _, s := range []string{"A", "B", "C"} {
			for _, u := range []string{"X", "Y"} {
				holdNothing(t, l, s, u)
			}
		}
	})
	// The join is the first type above both, not any.
	inAllOrders(classes("R M:R N:M A:N B:N"), func(l []api.Class) {
		holdJoin(t, l, "A", "B", "N")
		holdJoin(t, l, "A", "M", "M")
		holdJoin(t, l, "B", "R", "R")
	})
}

// TestBaseTypes holds that base types and ? are below nothing but themselves, and join with nothing else.
func TestBaseTypes(t *testing.T) {
	for _, l := range [][]api.Class{nil, {}, five(), classes("Int Str:Int Bool:Str Real Unit:Real")} {
		for _, s := range bases() {
			for _, u := range bases() {
				if s == u {
					holdSub(t, l, s, u, true)
					holdJoin(t, l, s, u, s)
				} else {
					holdNothing(t, l, s, u)
				}
			}
			for _, c := range l {
				holdNothing(t, l, s, c.Name)
			}
		}
	}
}

// TestNoTypes holds that a text that is no type of the table is not even below itself.
func TestNoTypes(t *testing.T) {
	for _, l := range [][]api.Class{nil, {}, five(), classes("B:A A"), row(40)} {
		others := append(bases(), namesOf(l)...)
		for _, s := range noTypes() {
			holdNothing(t, l, s, s)
			for _, u := range others {
				holdNothing(t, l, s, u)
			}
		}
		for _, s := range []string{"", "Y", "a"} {
			for _, u := range noTypes() {
				holdNothing(t, l, s, u)
			}
		}
	}
}

// TestEmptyTable holds that an empty table has no classes, but base types and ?.
func TestEmptyTable(t *testing.T) {
	for _, l := range [][]api.Class{nil, {}, five()[:0]} {
		for _, s := range []string{"A", "B", "X", ""} {
			holdNothing(t, l, s, s)
			holdNoClass(t, l, s)
		}
		for _, s := range bases() {
			holdSub(t, l, s, s, true)
			holdJoin(t, l, s, s, s)
			holdNoClass(t, l, s)
		}
	}
}

// TestRow holds a line of as many classes as a table may have, in two orders.
func TestRow(t *testing.T) {
	up := row(40)
	mixed := append(slices.Clone(up[20:]), up[:20]...)
	names := namesOf(up)
	for _, l := range [][]api.Class{up, backward(mixed)} {
		for i, s := range names {
			for j, u := range names {
				holdSub(t, l, s, u, i >= j)
				// To check such a table takes long: a third of the joins will do.
				if i <= j && (i+j)%3 == 0 {
					holdJoin(t, l, s, u, s)
				}
			}
			var want []string
			for _, c := range l {
				if slices.Index(names, c.Name) >= i {
					want = append(want, c.Name)
				}
			}
			holdBelow(t, l, s, want...)
			holdLeaf(t, l, s, i == 39)
		}
	}
}

// P6.2

func TestBelowExamples(t *testing.T) {
	l := five()
	holdBelow(t, l, "B", "B", "D")
	holdBelow(t, l, "A", "A", "B", "C", "D")
	holdBelow(t, l, "int")
}

func TestLeafExamples(t *testing.T) {
	l := five()
	holdLeaf(t, l, "D", true)
	holdLeaf(t, l, "B", false)
	holdLeaf(t, l, "?", false)
}

// TestBelow holds who is below a class, in each order of the table's classes, in which they are named too.
func TestBelow(t *testing.T) {
	below := map[string]string{"A": "ABCD", "B": "BD", "C": "C", "D": "D", "X": "X"}
	inAllOrders(five(), func(l []api.Class) {
		for s, all := range below {
			var want []string
			for _, c := range l {
				if strings.Contains(all, c.Name) {
					want = append(want, c.Name)
				}
			}
			holdBelow(t, l, s, want...)
			holdLeaf(t, l, s, len(all) == 1)
		}
	})
}

// TestOrderOfBelow holds orders of a table in which a class stands before its superclass.
func TestOrderOfBelow(t *testing.T) {
	holdBelow(t, classes("D:B X C:A A B:A"), "A", "D", "C", "A", "B")
	holdBelow(t, classes("D:B X C:A A B:A"), "B", "D", "B")
	holdBelow(t, classes("C:B B:A A"), "A", "C", "B", "A")
	holdBelow(t, classes("C:B B:A A"), "B", "C", "B")
	holdBelow(t, classes("C:B B:A A"), "C", "C")
	holdBelow(t, classes("B A:B"), "B", "B", "A")
	holdBelow(t, classes("B A:B"), "A", "A")
}

// TestLeaf holds that a class is a leaf or not wherever those below it stand.
func TestLeaf(t *testing.T) {
	holdLeaf(t, classes("A"), "A", true)
	holdBelow(t, classes("A"), "A", "A")
	for _, text := range []string{"A B:A", "B:A A"} {
		holdLeaf(t, classes(text), "A", false)
		holdLeaf(t, classes(text), "B", true)
	}
	l := classes("A B C D")
	for _, c := range l {
		holdLeaf(t, l, c.Name, true)
		holdBelow(t, l, c.Name, c.Name)
	}
	var star []api.Class
	for _, c := range row(39) {
		star = append(star, api.Class{Name: c.Name, Super: "A"})
	}
	star = append(star, api.Class{Name: "A"})
	holdLeaf(t, star, "A", false)
	holdBelow(t, star, "A", namesOf(star)...)
	for _, c := range star[:39] {
		holdLeaf(t, star, c.Name, true)
		holdBelow(t, star, c.Name, c.Name)
	}
}

// TestBelowNoClass holds that nothing is below a text that is no class of the table, whatever else it is.
func TestBelowNoClass(t *testing.T) {
	for _, l := range [][]api.Class{nil, {}, five(), classes("Int Str:Int"), row(40)} {
		for _, s := range append(noTypes(), bases()...) {
			if _, is := table.Find(l, s); !is {
				holdNoClass(t, l, s)
			}
		}
	}
}

// Tables with a fault

// faulty is a table with a fault.
type faulty struct {
	what string
	err  api.Errno
	t    []api.Class
}

// vars returns n fields or parameters.
func vars(n int) []api.Var {
	var l []api.Var
	for i := range n {
		l = append(l, api.Var{Name: "v" + string(rune('a'+i)), Type: "int"})
	}
	return l
}

// sigs returns n methods.
func sigs(n int) []api.Sig {
	var l []api.Sig
	for i := range n {
		l = append(l, api.Sig{Name: "m" + string(rune('a'+i)), Result: "int"})
	}
	return l
}

// taking returns a method with these parameters.
func taking(params ...api.Var) api.Sig {
	return api.Sig{Name: "m", Params: params, Result: "int"}
}

// behind returns the chapter's table with further classes behind it.
func behind(l ...api.Class) []api.Class {
	return append(five(), l...)
}

func fields(l ...api.Var) []api.Class {
	return behind(api.Class{Name: "Z", Fields: l})
}

func methods(l ...api.Sig) []api.Class {
	return behind(api.Class{Name: "Z", Methods: l})
}

// faultyClasses returns tables whose fault is a class's name or superclass, or how many classes there are.
func faultyClasses() []faulty {
	return []faulty{
		{"many classes", api.ErrMany, append(five(), row(36)...)},
		{"very many classes", api.ErrMany, append(five(), row(99)...)},
		{"a small letter", api.ErrForm, append(five(), classes("z")...)},
		{"a class without a name", api.ErrForm, behind(api.Class{})},
		{"a class without a name first", api.ErrForm, append([]api.Class{{}}, five()...)},
		{"a long name", api.ErrForm, append(five(), classes(strings.Repeat("Z", 21))...)},
		{"a base type", api.ErrForm, append(five(), classes("int")...)},
		{"the dynamic type", api.ErrForm, append(five(), classes("?")...)},
		{"two classes", api.ErrDouble, append(five(), classes("Z Z")...)},
		{"the class itself again", api.ErrDouble, append(five(), classes("A")...)},
		{"the class itself again, below another", api.ErrDouble, append(five(), classes("X:A")...)},
		{"no superclass", api.ErrName, append(five(), classes("Z:Y")...)},
		{"a base type as a superclass", api.ErrName, append(five(), classes("Z:int")...)},
		{"no superclass of the topmost", api.ErrName, classes("A:Y B:A C:A D:B X")},
		{"a class below itself", api.ErrCycle, append(five(), classes("Z:Z")...)},
		{"two classes below one another", api.ErrCycle, append(five(), classes("Y:Z Z:Y")...)},
		{"the topmost class below itself", api.ErrCycle, classes("A:A B:A C:A D:B X")},
		{"the topmost class below the last one", api.ErrCycle, classes("A:D B:A C:A D:B X")},
		{"a class below a cycle", api.ErrCycle, append(classes("A:Y B:A C:A D:B X"), classes("Y:Z Z:Y")...)},
	}
}

// faultyMembers returns tables whose fault is a member.
func faultyMembers() []faulty {
	one, other := vars(2)[0], vars(2)[1]
	m := sigs(1)[0]
	withX := api.Class{Name: "Y", Fields: []api.Var{one}, Methods: []api.Sig{taking(one)}}
	below := func(fields []api.Var, methods ...api.Sig) []api.Class {
		return behind(withX, api.Class{Name: "Z", Super: "Y", Fields: fields, Methods: methods})
	}
	return []faulty{
		{"many fields", api.ErrMany, fields(vars(21)...)},
		{"many methods", api.ErrMany, methods(sigs(21)...)},
		{"many parameters", api.ErrMany, methods(taking(vars(9)...))},
		{"a field's name", api.ErrForm, fields(api.Var{Name: "if", Type: "int"})},
		{"a field's type", api.ErrForm, fields(api.Var{Name: "x", Type: "a"})},
		{"a field without a type", api.ErrForm, fields(api.Var{Name: "x"})},
		{"a method's name", api.ErrForm, methods(api.Sig{Name: "M", Result: "int"})},
		{"a method without a result", api.ErrForm, methods(api.Sig{Name: "m"})},
		{"a parameter's name", api.ErrForm, methods(taking(api.Var{Type: "int"}))},
		{"a parameter's type", api.ErrForm, methods(taking(api.Var{Name: "a", Type: "??"}))},
		{"a field of no class", api.ErrName, fields(api.Var{Name: "x", Type: "Y"})},
		{"a parameter of no class", api.ErrName, methods(taking(api.Var{Name: "a", Type: "Y"}))},
		{"a result of no class", api.ErrName, methods(api.Sig{Name: "m", Result: "Y"})},
		{"two fields", api.ErrDouble, fields(one, one)},
		{"two methods", api.ErrDouble, methods(m, m)},
		{"two parameters", api.ErrDouble, methods(taking(one, one))},
		{"a field and a method", api.ErrDouble, behind(api.Class{Name: "Z", Fields: []api.Var{{Name: "m", Type: "int"}}, Methods: []api.Sig{taking()}})},
		{"a superclass's field", api.ErrDouble, below([]api.Var{one})},
		{"a superclass's field as a method", api.ErrDouble, below(nil, api.Sig{Name: one.Name, Result: "int"})},
		{"a superclass's method as a field", api.ErrDouble, below([]api.Var{{Name: "m", Type: "int"}})},
		{"another result", api.ErrOverride, below(nil, api.Sig{Name: "m", Params: []api.Var{one}, Result: "?"})},
		{"another parameter's type", api.ErrOverride, below(nil, taking(api.Var{Name: one.Name, Type: "?"}))},
		{"a parameter more", api.ErrOverride, below(nil, taking(one, other))},
		{"a parameter less", api.ErrOverride, below(nil, taking())},
	}
}

// TestFaultyTables holds that nothing has a place in a table with a fault, wherever it is: not even a base type.
func TestFaultyTables(t *testing.T) {
	for _, x := range append(faultyClasses(), faultyMembers()...) {
		if f := table.Check(x.t); f.Err != x.err {
			t.Fatalf("%s: the fault %v", x.what, f)
		}
		for _, l := range [][]api.Class{x.t, backward(x.t)} {
			all := append(bases(), namesOf(x.t)...)
			for _, s := range append(all, "", "V", "a") {
				holdNoClass(t, l, s)
				holdNothing(t, l, s, s)
				for _, u := range all {
					holdNothing(t, l, s, u)
				}
			}
		}
		if t.Failed() {
			t.Fatalf("the table with %s", x.what)
		}
	}
}

// backward returns a table in the other order.
func backward(l []api.Class) []api.Class {
	l = slices.Clone(l)
	slices.Reverse(l)
	return l
}

// TestNoFault holds that what the tables with a fault are made of is valid: the faults alone are to blame.
func TestNoFault(t *testing.T) {
	v, m := vars(8), sigs(20)
	for _, l := range [][]api.Class{
		append(five(), row(35)...), append(five(), classes("Z Y:Z")...), fields(vars(20)...), methods(m...), methods(taking(v...)),
		fields(v[0], api.Var{Name: "z", Type: "Z"}, api.Var{Name: "a", Type: "A"}, api.Var{Name: "d", Type: "?"}),
		behind(api.Class{Name: "Y", Methods: []api.Sig{taking(v...)}}, api.Class{Name: "Z", Super: "Y", Methods: []api.Sig{taking(v...)}}),
	} {
		for _, l := range [][]api.Class{l, backward(l)} {
			holdSub(t, l, "D", "A", true)
			holdJoin(t, l, "D", "C", "A")
			holdLeaf(t, l, "D", true)
			holdSub(t, l, "int", "int", true)
			if got := subtype.Below(l, "A"); len(got) != 4 {
				t.Errorf("%v: Below A: %q", l, got)
			}
		}
	}
}

// What is handed in and out

// roomy returns a table, behind which another class lies that is none of it.
func roomy() []api.Class {
	l := append(five(), classes("E:D")...)
	l[0].Fields = append(vars(1), api.Var{Name: "spare"})[:1]
	return l[:5]
}

// ask calls everything of each type of a table, and returns all that is below its classes.
func ask(l []api.Class) [][]string {
	var out [][]string
	all := append(bases(), namesOf(l)...)
	for _, s := range all {
		for _, u := range all {
			subtype.Sub(l, s, u)
			subtype.Join(l, s, u)
		}
		subtype.Leaf(l, s)
		out = append(out, subtype.Below(l, s))
	}
	return out
}

// TestNewMemory holds that answers share nothing with a table or with one another, and that a table remains as it was.
func TestNewMemory(t *testing.T) {
	l := roomy()
	before := slices.Clone(l[:cap(l)])
	first := ask(l)
	for _, names := range first {
		names = names[:cap(names)]
		for i := range names {
			names[i] = "Spoilt"
		}
	}
	if !reflect.DeepEqual(l[:cap(l)], before) {
		t.Errorf("a call changed its table: %v", l[:cap(l)])
	}
	second := ask(l)
	if !reflect.DeepEqual(second, ask(five())) {
		t.Errorf("an answer depends on an earlier one, or on what lies behind a list: %q", second)
	}
	holdLeaf(t, l, "D", true)
	holdNothing(t, l, "E", "A")
	kept := ask(l)
	clear(l[:cap(l)])
	if !reflect.DeepEqual(kept, second) {
		t.Errorf("an answer changes with its table: %q", kept)
	}
}

// TestChanged holds that a table that a caller has changed is another one.
func TestChanged(t *testing.T) {
	l := five()
	holdSub(t, l, "D", "A", true)
	holdLeaf(t, l, "X", true)
	l[1].Super = "X"
	holdSub(t, l, "D", "A", false)
	holdSub(t, l, "D", "X", true)
	holdJoin(t, l, "C", "D", "")
	holdBelow(t, l, "A", "A", "C")
	holdBelow(t, l, "X", "B", "D", "X")
	holdLeaf(t, l, "X", false)
	l[4].Super = "D"
	holdNothing(t, l, "A", "A")
	holdNoClass(t, l, "A")
	l[4].Super = "C"
	holdBelow(t, l, "C", "B", "C", "D", "X")
	holdJoin(t, l, "A", "D", "A")
}
