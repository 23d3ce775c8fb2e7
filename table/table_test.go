package table_test

import (
	"reflect"
	"slices"
	"strings"
	"testing"

	"chaperon/api"
	"chaperon/table"
)

// vars makes variables of names and types by turns.
func vars(l ...string) []api.Var {
	var out []api.Var
	for i := 0; i+1 < len(l); i += 2 {
		out = append(out, api.Var{Name: l[i], Type: l[i+1]})
	}
	return out
}

// sig makes a method of its name, its result, and its parameters' names and types by turns.
func sig(name, result string, params ...string) api.Sig {
	return api.Sig{Name: name, Params: vars(params...), Result: result}
}

func class(name, super string, fields []api.Var, methods ...api.Sig) api.Class {
	return api.Class{Name: name, Super: super, Fields: fields, Methods: methods}
}

// bare makes classes without members of names and superclasses by turns.
func bare(l ...string) []api.Class {
	var t []api.Class
	for i := 0; i+1 < len(l); i += 2 {
		t = append(t, class(l[i], l[i+1], nil))
	}
	return t
}

// two returns the chapter's table.
func two() []api.Class {
	return []api.Class{
		class("A", "", vars("x", "int"), sig("m", "int", "a", "?")),
		class("B", "A", vars("y", "A"), sig("m", "int", "b", "?"), sig("n", "B")),
	}
}

// deep returns a table with a line of three classes, the last one before the others, and a class beside them.
func deep() []api.Class {
	return []api.Class{
		class("C", "B", vars("z", "C", "w", "?"), sig("k", "unit"), sig("m", "B", "p", "A", "q", "int")),
		class("B", "A", vars("y", "real"), sig("n", "?", "s", "str"), sig("m", "B", "c", "A", "d", "int")),
		class("Z", "", vars("x", "str", "k", "str"), sig("y", "Z")),
		class("A", "", vars("x", "int", "v", "bool"), sig("m", "B", "a", "A", "b", "int"), sig("o", "A")),
	}
}

// copyOf copies a table in depth.
func copyOf(t []api.Class) []api.Class {
	out := slices.Clone(t)
	for i := range out {
		out[i].Fields = slices.Clone(out[i].Fields)
		out[i].Methods = slices.Clone(out[i].Methods)
		for j := range out[i].Methods {
			out[i].Methods[j].Params = slices.Clone(out[i].Methods[j].Params)
		}
	}
	return out
}

// with returns a table after a change of a copy of it.
func with(t []api.Class, change func([]api.Class)) []api.Class {
	t = copyOf(t)
	change(t)
	return t
}

func holdFault(t *testing.T, what string, l []api.Class, err api.Errno, at int) {
	t.Helper()
	if f := table.Check(l); f != (api.Fault{Err: err, At: at}) {
		t.Errorf("%s: fault %d at %d, not %d at %d", what, f.Err, f.At, err, at)
	}
}

func holdValid(t *testing.T, what string, l []api.Class) {
	t.Helper()
	holdFault(t, what, l, 0, 0)
}

// names returns n class names.
func names(n int) []string {
	var l []string
	for i := range n {
		l = append(l, "C"+strings.Repeat("x", i/10)+string(rune('0'+i%10)))
	}
	return l
}

// row returns classes, each below the one before it.
func row(n int) []api.Class {
	var t []api.Class
	super := ""
	for _, s := range names(n) {
		t = append(t, class(s, super, nil))
		super = s
	}
	return t
}

// manyVars returns variables of n different names.
func manyVars(n int) []api.Var {
	var l []api.Var
	for i := range n {
		l = append(l, api.Var{Name: "f" + string(rune('a'+i)), Type: "int"})
	}
	return l
}

// manySigs returns methods of n different names.
func manySigs(n int) []api.Sig {
	var l []api.Sig
	for i := range n {
		l = append(l, sig("m"+string(rune('a'+i)), "int"))
	}
	return l
}

// P5.1

func TestValid(t *testing.T) {
	holdValid(t, "nil", nil)
	holdValid(t, "empty", []api.Class{})
	holdValid(t, "two", two())
	holdValid(t, "deep", deep())
	for what, l := range map[string][]api.Class{
		"one":                                    bare("A", ""),
		"below":                                  bare("A", "", "B", "A"),
		"before its superclass":                  bare("B", "A", "A", ""),
		"three, the last one first":              bare("C", "B", "B", "A", "A", ""),
		"three, in the middle":                   bare("B", "A", "A", "", "C", "B"),
		"two below one":                          bare("B", "A", "A", "", "C", "A"),
		"empty lists":                            {{Name: "A", Fields: []api.Var{}, Methods: []api.Sig{}}},
		"empty parameters":                       {{Name: "A", Methods: []api.Sig{{Name: "m", Params: []api.Var{}, Result: "unit"}}}},
		"its own type":                           {class("A", "", vars("x", "A"), sig("m", "A", "a", "A"))},
		"a type behind it":                       {class("A", "", vars("x", "B"), sig("m", "C", "a", "B")), class("B", "", nil), class("C", "", nil)},
		"a type below it":                        {class("A", "", vars("x", "B")), class("B", "A", nil)},
		"all types":                              {class("A", "", vars("a", "int", "b", "real", "c", "bool", "d", "str", "e", "unit", "f", "?", "g", "A"), sig("m", "?", "a", "int", "b", "real", "c", "bool", "d", "str", "e", "unit", "f", "?", "g", "A"))},
		"a parameter with a member's name":       {class("A", "", vars("x", "int"), sig("m", "int", "x", "int", "m", "int"))},
		"a parameter with another method's name": {class("A", "", nil, sig("m", "int", "n", "int"), sig("n", "int", "m", "int"))},
		"parameters of two methods with one name":    {class("A", "", nil, sig("m", "int", "a", "int"), sig("n", "int", "a", "str"))},
		"members of two classes with one name":       {class("A", "", vars("x", "int"), sig("m", "int")), class("B", "", vars("m", "str"), sig("x", "?"))},
		"members of two classes below one":           {class("A", "", nil), class("B", "A", vars("x", "int"), sig("m", "int")), class("C", "A", vars("m", "str"), sig("x", "?"))},
		"a member with its class's name in small":    {class("Ab", "", vars("ab", "int"), sig("aB", "int"))},
		"a class with a reserved word's letters":     {class("Int", "", vars("x", "Int")), class("Class", "Int", nil)},
		"a method again, with other parameter names": {class("A", "", nil, sig("m", "?", "a", "int", "b", "A")), class("B", "A", nil, sig("m", "?", "b", "int", "a", "A"))},
		"a method again, below one that has it not":  {class("C", "B", nil, sig("m", "?", "a", "int")), class("B", "A", nil), class("A", "", nil, sig("m", "?", "a", "int"))},
		"a method again without parameters":          {class("A", "", nil, sig("m", "unit")), class("B", "A", nil, api.Sig{Name: "m", Params: []api.Var{}, Result: "unit"})},
	} {
		holdValid(t, what, l)
	}
}

func TestExamples(t *testing.T) {
	holdFault(t, "A below A", bare("A", "A"), api.ErrCycle, 0)
	holdFault(t, "A, A", bare("A", "", "A", ""), api.ErrDouble, 1)
	holdFault(t, "a", bare("a", ""), api.ErrForm, 0)
	holdFault(t, "A below C", bare("A", "C"), api.ErrName, 0)
	holdFault(t, "A (x: C)", []api.Class{class("A", "", vars("x", "C"))}, api.ErrName, 0)
	holdFault(t, "b: int", with(two(), func(l []api.Class) { l[1].Methods[0].Params[0].Type = "int" }), api.ErrOverride, 1)
	holdFault(t, "x in B", with(two(), func(l []api.Class) { l[1].Fields[0].Name = "x" }), api.ErrDouble, 1)
	holdFault(t, "x in B too", with(two(), func(l []api.Class) { l[1].Fields = append(l[1].Fields, vars("x", "int")...) }), api.ErrDouble, 1)
}

// TestErrorNumbers holds the numbers of the errors themselves.
func TestErrorNumbers(t *testing.T) {
	over := with(two(), func(l []api.Class) { l[1].Methods[0].Result = "?" })
	for _, x := range []struct {
		l    []api.Class
		want int
	}{
		{bare("a", ""), 5}, {bare("A", "B"), 6}, {bare("A", "", "A", ""), 8}, {bare("A", "A"), 9}, {over, 10}, {make([]api.Class, 41), 12}, {two(), 0},
	} {
		if f := table.Check(x.l); int(f.Err) != x.want {
			t.Errorf("%v: %d, not %d", x.l, f.Err, x.want)
		}
	}
}

func TestManyClasses(t *testing.T) {
	for _, n := range []int{1, 2, 39, 40} {
		holdValid(t, "row", row(n))
	}
	for _, n := range []int{41, 42, 80, 1000} {
		holdFault(t, "row", row(n), api.ErrMany, 40)
		holdFault(t, "of nothing", make([]api.Class, n), api.ErrMany, 40)
	}
	holdFault(t, "40 of nothing", make([]api.Class, 40), api.ErrForm, 0)
	t40 := row(40)
	t40[39].Name = "c"
	holdFault(t, "the last one's name", t40, api.ErrForm, 39)
	// What lies behind a list is none of it.
	holdValid(t, "40 of 41", row(41)[:40])
}

func TestClassForms(t *testing.T) {
	for _, s := range []string{"", "a", "x1", "int", "?", "class", "this", " ", "A ", " A", "A_", "A?", "1A", "é", "Aé", "A\x00", "\xff", "A.B", strings.Repeat("A", 21), strings.Repeat("A", 300)} {
		holdFault(t, s, bare(s, ""), api.ErrForm, 0)
		holdFault(t, "A, "+s, bare("A", "", s, ""), api.ErrForm, 1)
		holdFault(t, s+", A", bare(s, "", "A", ""), api.ErrForm, 0)
		holdFault(t, s+" twice", bare(s, "", s, ""), api.ErrForm, 0)
	}
	holdValid(t, "20 letters", bare(strings.Repeat("A", 20), ""))
}

func TestClassDoubles(t *testing.T) {
	holdFault(t, "A, B, A", bare("A", "", "B", "", "A", ""), api.ErrDouble, 2)
	holdFault(t, "A, B, B, A", bare("A", "", "B", "", "B", "", "A", ""), api.ErrDouble, 2)
	holdFault(t, "A, A, A", bare("A", "", "A", "", "A", ""), api.ErrDouble, 1)
	holdValid(t, "near", bare("A", "", "Aa", "", "AA", "", "A1", ""))
	l := row(40)
	l[39].Name = l[0].Name
	holdFault(t, "the first and the last one", l, api.ErrDouble, 39)
}

func TestManyMembers(t *testing.T) {
	for _, n := range []int{0, 1, 19, 20} {
		holdValid(t, "fields", []api.Class{class("A", "", manyVars(n))})
		holdValid(t, "methods", []api.Class{class("A", "", nil, manySigs(n)...)})
		holdValid(t, "both", []api.Class{class("A", "", manyVars(n), manySigs(n)...)})
		holdValid(t, "its superclass's too", []api.Class{class("A", "", manyVars(20), manySigs(20)...), class("B", "A", vars("x", "int"), sig("y", "int"))})
	}
	for _, n := range []int{21, 22, 26} {
		holdFault(t, "fields", []api.Class{class("A", "", manyVars(n))}, api.ErrMany, 0)
		holdFault(t, "methods", []api.Class{class("A", "", nil, manySigs(n)...)}, api.ErrMany, 0)
		holdFault(t, "fields of the second one", []api.Class{class("A", "", nil), class("B", "", manyVars(n))}, api.ErrMany, 1)
		holdFault(t, "methods of the third one", []api.Class{class("A", "", nil), class("B", "", nil), class("C", "", nil, manySigs(n)...)}, api.ErrMany, 2)
		holdFault(t, "fields of no names", []api.Class{class("A", "", make([]api.Var, n))}, api.ErrMany, 0)
		holdFault(t, "methods of no names", []api.Class{class("A", "", nil, make([]api.Sig, n)...)}, api.ErrMany, 0)
	}
}

func TestManyParams(t *testing.T) {
	for at := range 20 {
		for _, n := range []int{0, 1, 7, 8, 9, 10, 26} {
			l := []api.Class{class("A", "", nil), class("B", "", nil, manySigs(20)...)}
			l[1].Methods[at].Params = manyVars(n)
			if n <= 8 {
				holdValid(t, "parameters", l)
			} else {
				holdFault(t, "parameters", l, api.ErrMany, 1)
			}
		}
	}
}

// TestHeadOrder holds the order in which names and numbers are checked.
func TestHeadOrder(t *testing.T) {
	full := class("A", "", manyVars(21))
	busy := class("A", "", nil, api.Sig{Name: "m", Params: manyVars(9), Result: "int"})
	for _, c := range []api.Class{full, busy} {
		holdFault(t, "many, then a form", []api.Class{c, class("b", "", nil)}, api.ErrMany, 0)
		holdFault(t, "a form, then many", []api.Class{class("b", "", nil), c}, api.ErrForm, 0)
		holdFault(t, "many, then a double", []api.Class{c, class("A", "", nil)}, api.ErrMany, 0)
		holdFault(t, "a double that is many", []api.Class{class("A", "", nil), c}, api.ErrDouble, 1)
		c.Name = "a"
		holdFault(t, "a form that is many", []api.Class{c}, api.ErrForm, 0)
		holdFault(t, "a form after a valid one", []api.Class{class("B", "", nil), c}, api.ErrForm, 1)
	}
	holdFault(t, "a double, then a form", bare("A", "", "A", "", "a", ""), api.ErrDouble, 1)
	holdFault(t, "a form, then a double", bare("A", "", "a", "", "A", ""), api.ErrForm, 1)
	holdFault(t, "a superclass, then a form", bare("A", "X", "b", ""), api.ErrForm, 1)
	holdFault(t, "a cycle, then a double", bare("A", "A", "A", ""), api.ErrDouble, 1)
	holdFault(t, "a member, then many", []api.Class{class("A", "", vars("", "")), class("B", "", manyVars(21))}, api.ErrMany, 1)
	holdFault(t, "all sorts, then a form", []api.Class{class("A", "A", vars("x", "X")), class("B", "X", nil), class("", "", nil)}, api.ErrForm, 2)
}

func TestNoSuper(t *testing.T) {
	for _, s := range []string{"C", "a", "int", "?", " ", "B ", "AB", strings.Repeat("A", 21), "b"} {
		holdFault(t, s, bare("A", "", "B", s), api.ErrName, 1)
		holdFault(t, s, bare("B", s, "A", "B"), api.ErrName, 0)
		// A's superclass is there; only B's is not.
		holdFault(t, s, bare("A", "B", "B", s), api.ErrName, 1)
	}
}

func TestCycles(t *testing.T) {
	holdFault(t, "after one step", bare("A", "", "B", "B"), api.ErrCycle, 1)
	holdFault(t, "after two steps", bare("A", "B", "B", "A"), api.ErrCycle, 0)
	holdFault(t, "after two steps, behind another", bare("C", "", "A", "B", "B", "A"), api.ErrCycle, 1)
	holdFault(t, "after three steps", bare("A", "B", "B", "C", "C", "A"), api.ErrCycle, 0)
	holdFault(t, "after three steps, the other way", bare("A", "C", "B", "A", "C", "B"), api.ErrCycle, 0)
	holdFault(t, "into one of one step", bare("A", "B", "B", "B"), api.ErrCycle, 1)
	holdFault(t, "into one of two steps", bare("A", "B", "B", "C", "C", "B"), api.ErrCycle, 1)
	holdFault(t, "into one of two steps, from behind", bare("C", "B", "A", "C", "B", "C"), api.ErrCycle, 0)
	holdFault(t, "from far into one", bare("A", "B", "B", "C", "C", "D", "D", "E", "E", "D"), api.ErrCycle, 3)
	holdFault(t, "beside one", bare("A", "", "B", "A", "C", "D", "D", "C"), api.ErrCycle, 2)
	for n := 1; n <= 40; n++ {
		l := row(n)
		l[0].Super = l[n-1].Name
		holdFault(t, "all", l, api.ErrCycle, 0)
		l[0].Super = l[n/2].Name
		holdFault(t, "half", l, api.ErrCycle, 0)
		slices.Reverse(l)
		holdFault(t, "half, the other way", l, api.ErrCycle, n-1-n/2)
	}
}

// TestSuperOrder holds that superclasses are checked class by class, ahead of all members.
func TestSuperOrder(t *testing.T) {
	holdFault(t, "a name, then a cycle", bare("A", "X", "B", "B"), api.ErrName, 0)
	holdFault(t, "a cycle, then a name", bare("A", "A", "B", "X"), api.ErrCycle, 0)
	holdFault(t, "a member, then a name", []api.Class{class("A", "", vars("", "")), class("B", "X", nil)}, api.ErrName, 1)
	holdFault(t, "a member, then a cycle", []api.Class{class("A", "", nil, sig("m", "")), class("B", "B", nil)}, api.ErrCycle, 1)
}

// wrongNames returns texts that are no names.
func wrongNames() []string {
	return []string{"", "A", "Ab", "if", "int", "len", "this", "main", "?", "1", "1a", "a_", "_a", " a", "a ", "a-b", "é", "\x00", "a\xff", strings.Repeat("a", 21), strings.Repeat("a", 300)}
}

// wrongTypes returns texts that are no types.
func wrongTypes() []string {
	return []string{"", "a", "x", "if", "class", "none", "Int ", "A_", "??", "?A", "int?", "1", "INT_", "é", "\xff", strings.Repeat("A", 21)}
}

// noClasses returns class names that no table here has.
func noClasses() []string {
	return []string{"Int", "X", "Aa", "AA", "A1", "Str", strings.Repeat("A", 20)}
}

func TestFieldForms(t *testing.T) {
	check := func(what string, fields []api.Var, err api.Errno) {
		t.Helper()
		holdFault(t, what, []api.Class{class("A", "", fields)}, err, 0)
		holdFault(t, what+", second", []api.Class{class("B", "", nil), class("A", "B", append(vars("p", "B"), fields...))}, err, 1)
	}
	for _, s := range wrongNames() {
		check(s, vars(s, "int"), api.ErrForm)
		check(s+", of no type", vars(s, "x"), api.ErrForm)
		check(s+", of no class", vars(s, "X"), api.ErrForm)
		check(s+" twice", vars(s, "int", s, "int"), api.ErrForm)
	}
	for _, s := range wrongTypes() {
		check(s, vars("x", s), api.ErrForm)
		check(s, vars("w", "A", "x", s), api.ErrForm)
		check(s+" of a name twice", vars("x", "int", "x", s), api.ErrForm)
	}
	for _, s := range noClasses() {
		check(s, vars("x", s), api.ErrName)
		check(s, vars("w", "A", "x", s), api.ErrName)
		check(s+" of a name twice", vars("x", "int", "x", s), api.ErrName)
		check(s+", then no name", vars("x", s, "", "int"), api.ErrName)
	}
	check("no name, then X", vars("", "int", "x", "X"), api.ErrForm)
	check("twice", vars("x", "int", "x", "int"), api.ErrDouble)
	check("twice, of two types", vars("x", "int", "y", "int", "x", "A"), api.ErrDouble)
	check("twice, then no name", vars("x", "int", "x", "int", "", ""), api.ErrDouble)
}

func TestMethodForms(t *testing.T) {
	check := func(what string, err api.Errno, methods ...api.Sig) {
		t.Helper()
		holdFault(t, what, []api.Class{class("A", "", vars("x", "A"), methods...)}, err, 0)
		holdFault(t, what+", second", []api.Class{class("B", "", nil, sig("p", "A", "p", "B")), class("A", "B", vars("x", "B"), append([]api.Sig{sig("p", "A", "q", "B"), sig("o", "A")}, methods...)...)}, err, 1)
	}
	for _, s := range wrongNames() {
		check(s, api.ErrForm, sig(s, "int"))
		check(s+" with a parameter of no class", api.ErrForm, sig(s, "int", "a", "X"))
		check(s+" of no class", api.ErrForm, sig(s, "X"))
		check(s+", a parameter", api.ErrForm, sig("m", "int", s, "int"))
		check(s+", a parameter of no class", api.ErrForm, sig("m", "int", s, "X"))
		check(s+", a second parameter", api.ErrForm, sig("m", "X", "a", "int", s, "int"))
		check(s+", a parameter twice", api.ErrForm, sig("m", "X", s, "int", s, "int"))
	}
	for _, s := range wrongTypes() {
		check(s, api.ErrForm, sig("m", s))
		check(s+" of a parameter", api.ErrForm, sig("m", "int", "a", s))
		check(s+" of a second parameter", api.ErrForm, sig("m", "X", "a", "A", "b", s))
		check(s+" of a parameter twice", api.ErrForm, sig("m", "X", "a", "A", "a", s))
		check(s+" behind a parameter twice", api.ErrDouble, sig("m", s, "a", "A", "a", "A"))
		check(s+" behind a parameter of no class", api.ErrName, sig("m", s, "a", "X"))
		check(s+" of a method twice", api.ErrForm, sig("m", "int"), sig("m", s))
		check(s+" of a method with a field's name", api.ErrForm, sig("x", s))
	}
	for _, s := range noClasses() {
		check(s, api.ErrName, sig("m", s))
		check(s+" of a parameter", api.ErrName, sig("m", "int", "a", s))
		check(s+" of a parameter, the result ill-formed", api.ErrName, sig("m", "", "a", s))
		check(s+" of a second parameter", api.ErrName, sig("m", "int", "a", "A", "b", s))
		check(s+" of a parameter twice", api.ErrName, sig("m", "", "a", "A", "a", s))
		check(s+" behind a parameter twice", api.ErrDouble, sig("m", s, "a", "A", "a", "A"))
		check(s+" of a method twice", api.ErrName, sig("m", "int"), sig("m", s))
		check(s+" of a method with a field's name", api.ErrName, sig("x", s))
	}
	check("a parameter twice", api.ErrDouble, sig("m", "int", "a", "int", "b", "int", "a", "str"))
	check("a parameter twice of a method twice", api.ErrDouble, sig("m", "int"), sig("m", "int", "a", "int", "a", "int"))
	check("a method twice", api.ErrDouble, sig("m", "int"), sig("m", "int"))
	check("a method twice, of other types", api.ErrDouble, sig("m", "int"), sig("n", "int"), sig("m", "A", "a", "?"))
	check("a field's name", api.ErrDouble, sig("x", "int"))
	check("a field's name, then an ill-formed one", api.ErrDouble, sig("x", "int"), sig("", ""))
}

// TestMemberOrder holds that a class's fields come before its methods, and both before the next class.
func TestMemberOrder(t *testing.T) {
	holdFault(t, "a field behind a wrong method", []api.Class{class("A", "", vars("x", "X"), sig("", ""))}, api.ErrName, 0)
	holdFault(t, "a field of the second one", []api.Class{class("A", "", nil, sig("x", "X")), class("B", "", vars("", ""))}, api.ErrName, 0)
	holdFault(t, "a class before its superclass", []api.Class{class("B", "A", vars("y", "X")), class("A", "", vars("", ""))}, api.ErrName, 0)
	holdFault(t, "a class behind its superclass", []api.Class{class("A", "", vars("", "")), class("B", "A", vars("y", "X"))}, api.ErrForm, 0)
	holdFault(t, "a class beside", []api.Class{class("A", "", nil), class("C", "", nil, sig("m", "C")), class("B", "A", nil, sig("m", "D"))}, api.ErrName, 2)
}

// TestHidden holds that a member has no name that a superclass's field has, nor a field one that its method has.
func TestHidden(t *testing.T) {
	a := class("A", "", vars("x", "int"), sig("m", "int"))
	for _, l := range [][]api.Class{
		{a, class("B", "A", nil)},
		{a, class("C", "A", nil), class("B", "C", nil)},
		{class("C", "A", vars("p", "int"), sig("q", "int")), a, class("D", "C", nil), class("B", "D", nil)},
		{class("B", "A", nil), a},
		{class("B", "C", nil), class("C", "A", nil), a},
	} {
		at, _ := table.Find(l, "B")
		holdValid(t, "none", l)
		for _, f := range [][]api.Var{vars("x", "int"), vars("x", "str"), vars("m", "int"), vars("y", "int", "x", "int"), vars("y", "int", "m", "int")} {
			holdFault(t, "a field", with(l, func(l []api.Class) { l[at].Fields = f }), api.ErrDouble, at)
		}
		holdFault(t, "a method", with(l, func(l []api.Class) { l[at].Methods = []api.Sig{sig("x", "int")} }), api.ErrDouble, at)
		holdFault(t, "a second method", with(l, func(l []api.Class) { l[at].Methods = []api.Sig{sig("m", "int"), sig("x", "int")} }), api.ErrDouble, at)
		holdFault(t, "a field of no class", with(l, func(l []api.Class) { l[at].Fields = vars("x", "X") }), api.ErrName, at)
		holdFault(t, "a method of no class", with(l, func(l []api.Class) { l[at].Methods = []api.Sig{sig("x", "X")} }), api.ErrName, at)
		holdFault(t, "a method twice", with(l, func(l []api.Class) { l[at].Methods = []api.Sig{sig("m", "int"), sig("m", "int")} }), api.ErrDouble, at)
		holdFault(t, "a method twice, with other types", with(l, func(l []api.Class) { l[at].Methods = []api.Sig{sig("m", "int"), sig("m", "str")} }), api.ErrDouble, at)
	}
}

func TestOverrides(t *testing.T) {
	m := sig("m", "A", "a", "int", "b", "?")
	same := sig("m", "A", "b", "int", "a", "?")
	for _, l := range [][]api.Class{
		{class("A", "", nil, m), class("B", "A", nil)},
		{class("B", "A", nil), class("A", "", nil, m)},
		{class("A", "", nil, m), class("C", "A", nil), class("B", "C", nil)},
		{class("A", "", nil, sig("k", "int"), m), class("C", "A", nil, sig("l", "int"), same), class("B", "C", nil)},
		{class("B", "C", nil), class("C", "A", nil), class("A", "", nil, m)},
	} {
		at, _ := table.Find(l, "B")
		put := func(methods ...api.Sig) []api.Class {
			return with(l, func(l []api.Class) { l[at].Methods = methods })
		}
		holdValid(t, "not again", l)
		holdValid(t, "the same", put(m))
		holdValid(t, "the same types", put(same))
		holdValid(t, "the same types, behind others", put(sig("n", "int"), sig("o", "int"), same))
		for _, other := range []api.Sig{
			sig("m", "B", "a", "int", "b", "?"), sig("m", "?", "a", "int", "b", "?"), sig("m", "A", "a", "int", "b", "A"), sig("m", "A", "a", "?", "b", "?"),
			sig("m", "A", "a", "?", "b", "int"), sig("m", "A", "a", "int"), sig("m", "A"), sig("m", "A", "a", "int", "b", "?", "c", "?"), sig("m", "A", "b", "?", "a", "int"), sig("m", "int", "a", "A", "b", "?"),
		} {
			holdFault(t, "another one", put(other), api.ErrOverride, at)
			holdFault(t, "another one, behind others", put(sig("n", "int"), other, sig("", "")), api.ErrOverride, at)
		}
		holdFault(t, "a result of no class", put(sig("m", "X", "a", "int", "b", "?")), api.ErrName, at)
		holdFault(t, "the same, then another one", put(m, sig("m", "int")), api.ErrDouble, at)
	}
}

// TestUnchecked holds what counts of superclasses that stand behind a class, whose own faults are not yet found.
func TestUnchecked(t *testing.T) {
	holdFault(t, "the nearest one", []api.Class{class("C", "B", nil, sig("m", "str")), class("B", "A", nil, sig("m", "str")), class("A", "", nil, sig("m", "int"))}, api.ErrOverride, 1)
	holdFault(t, "not the farther one", []api.Class{class("C", "B", nil, sig("m", "int")), class("B", "A", nil, sig("m", "str")), class("A", "", nil, sig("m", "int"))}, api.ErrOverride, 0)
	holdFault(t, "the first of two", []api.Class{class("B", "A", nil, sig("m", "str")), class("A", "", nil, sig("m", "str"), sig("m", "int"))}, api.ErrDouble, 1)
	holdFault(t, "not the second of two", []api.Class{class("B", "A", nil, sig("m", "int")), class("A", "", nil, sig("m", "str"), sig("m", "int"))}, api.ErrOverride, 0)
	holdFault(t, "a field beside a method", []api.Class{class("B", "A", nil, sig("m", "str")), class("A", "", vars("m", "int"), sig("m", "str"))}, api.ErrDouble, 0)
	holdFault(t, "a field above a method", []api.Class{class("C", "B", nil, sig("m", "str")), class("B", "A", nil, sig("m", "str")), class("A", "", vars("m", "int"))}, api.ErrDouble, 0)
	holdFault(t, "a field below another method", []api.Class{class("C", "B", nil, sig("m", "str")), class("B", "A", vars("m", "int")), class("A", "", nil, sig("m", "int"))}, api.ErrDouble, 0)
	holdFault(t, "a type that is none", []api.Class{class("B", "A", nil, sig("m", "int")), class("A", "", nil, sig("m", "x"))}, api.ErrOverride, 0)
	holdFault(t, "a parameter twice", []api.Class{class("B", "A", nil, sig("m", "int", "a", "int", "b", "int")), class("A", "", nil, sig("m", "int", "a", "int", "a", "int"))}, api.ErrDouble, 1)
}

// P5.2

func holdFind(t *testing.T, l []api.Class, name string, at int, is bool) {
	t.Helper()
	if n, ok := table.Find(l, name); n != at || ok != is {
		t.Errorf("Find %q: %d %t, not %d %t", name, n, ok, at, is)
	}
}

func TestFind(t *testing.T) {
	for i, s := range names(40) {
		holdFind(t, row(40), s, i, true)
		holdFind(t, row(40)[:i], s, 0, false)
	}
	holdFind(t, two(), "A", 0, true)
	holdFind(t, two(), "B", 1, true)
	for _, s := range []string{"C", "", "a", "AB", "A ", "x", "m", "int", "?", "\x00"} {
		holdFind(t, two(), s, 0, false)
		holdFind(t, nil, s, 0, false)
	}
	holdFind(t, bare("B", "", "A", "", "A", "B", "B", ""), "A", 1, true)
	holdFind(t, bare("A", "B", "B", "A", "B", "B"), "B", 1, true)
	holdFind(t, bare("A", "", "", "A", "", ""), "", 1, true)
	holdFind(t, bare("a b", "", "int", "", "\xff", ""), "\xff", 2, true)
	holdFind(t, row(1000), names(1000)[999], 999, true)
}

func holdSupers(t *testing.T, l []api.Class, name string, want ...string) {
	t.Helper()
	if got := table.Supers(l, name); !slices.Equal(got, want) {
		t.Errorf("Supers %q: %q, not %q", name, got, want)
	}
}

func TestSupers(t *testing.T) {
	holdSupers(t, two(), "A", "A")
	holdSupers(t, two(), "B", "B", "A")
	holdSupers(t, deep(), "C", "C", "B", "A")
	holdSupers(t, deep(), "B", "B", "A")
	holdSupers(t, deep(), "Z", "Z")
	for _, s := range []string{"C", "", "a", "x", "int", "?"} {
		holdSupers(t, two(), s)
		holdSupers(t, nil, s)
	}
	all := names(40)
	for i := range all {
		want := slices.Clone(all[:i+1])
		slices.Reverse(want)
		holdSupers(t, row(40), all[i], want...)
	}
}

// TestFaultySupers holds the lines of tables with faults.
func TestFaultySupers(t *testing.T) {
	holdSupers(t, bare("A", "X"), "A", "A")
	holdSupers(t, bare("A", "A"), "A", "A")
	holdSupers(t, bare("A", "B", "B", "A"), "A", "A", "B")
	holdSupers(t, bare("A", "B", "B", "A"), "B", "B", "A")
	holdSupers(t, bare("A", "B", "B", "C", "C", "B"), "A", "A", "B", "C")
	holdSupers(t, bare("A", "B", "B", "C", "C", "B"), "C", "C", "B")
	holdSupers(t, bare("A", "B", "B", "C", "C", "A"), "B", "B", "C", "A")
	holdSupers(t, bare("A", "", "A", "B", "B", "A"), "A", "A")
	holdSupers(t, bare("A", "B", "A", "", "B", "A"), "B", "B", "A")
	holdSupers(t, bare("A", "B", "B", "", "B", "C", "C", ""), "A", "A", "B")
	holdSupers(t, bare("a b", "int", "int", "\xff", "\xff", "no"), "a b", "a b", "int", "\xff")
	holdSupers(t, bare("", "A", "A", "B", "B", "X"), "", "", "A", "B")
	// An empty name is that of a class here.
	holdSupers(t, bare("", ""), "", "")
	holdSupers(t, bare("A", "", "", "B", "B", "A"), "A", "A", "", "B")
	l := row(1000)
	want := names(1000)
	slices.Reverse(want)
	holdSupers(t, l, want[0], want...)
	l[0].Super = want[0]
	holdSupers(t, l, want[0], want...)
}

func holdFields(t *testing.T, l []api.Class, name string, want ...string) {
	t.Helper()
	if got := table.Fields(l, name); !slices.Equal(got, vars(want...)) {
		t.Errorf("Fields %q: %q, not %q", name, got, want)
	}
}

func TestFields(t *testing.T) {
	holdFields(t, two(), "A", "x", "int")
	holdFields(t, two(), "B", "x", "int", "y", "A")
	holdFields(t, deep(), "A", "x", "int", "v", "bool")
	holdFields(t, deep(), "B", "x", "int", "v", "bool", "y", "real")
	holdFields(t, deep(), "C", "x", "int", "v", "bool", "y", "real", "z", "C", "w", "?")
	holdFields(t, deep(), "Z", "x", "str", "k", "str")
	holdFields(t, bare("A", "", "B", "A"), "B")
	for _, s := range []string{"D", "", "a", "x", "int", "?"} {
		holdFields(t, deep(), s)
		holdFields(t, nil, s)
	}
}

// holdMethods holds methods, in lists of which nil and empty ones are equal.
func holdMethods(t *testing.T, l []api.Class, name string, want ...api.Sig) {
	t.Helper()
	got := table.Methods(l, name)
	same := func(a, b api.Sig) bool {
		return a.Name == b.Name && a.Result == b.Result && slices.Equal(a.Params, b.Params)
	}
	if !slices.EqualFunc(got, want, same) {
		t.Errorf("Methods %q: %v, not %v", name, got, want)
	}
}

func TestMethods(t *testing.T) {
	l := two()
	holdMethods(t, l, "A", l[0].Methods...)
	holdMethods(t, l, "B", l[1].Methods...)
	l = deep()
	c, b, a := l[0].Methods, l[1].Methods, l[3].Methods
	holdMethods(t, l, "A", a...)
	holdMethods(t, l, "B", b[1], a[1], b[0])
	holdMethods(t, l, "C", c[1], a[1], b[0], c[0])
	holdMethods(t, l, "Z", l[2].Methods...)
	holdMethods(t, bare("A", "", "B", "A"), "B")
	for _, s := range []string{"D", "", "a", "m", "int", "?"} {
		holdMethods(t, l, s)
		holdMethods(t, nil, s)
	}
}

func holdMembers(t *testing.T, l []api.Class, name string, want ...api.Member) {
	t.Helper()
	if got := table.Members(l, name); !slices.Equal(got, want) {
		t.Errorf("Members %q: %v, not %v", name, got, want)
	}
}

func TestMembers(t *testing.T) {
	holdMembers(t, two(), "A", api.Member{Name: "x", Arity: -1}, api.Member{Name: "m", Arity: 1})
	holdMembers(t, two(), "B", api.Member{Name: "x", Arity: -1}, api.Member{Name: "y", Arity: -1}, api.Member{Name: "m", Arity: 1}, api.Member{Name: "n"})
	holdMembers(t, deep(), "C",
		api.Member{Name: "x", Arity: -1}, api.Member{Name: "v", Arity: -1}, api.Member{Name: "y", Arity: -1}, api.Member{Name: "z", Arity: -1}, api.Member{Name: "w", Arity: -1},
		api.Member{Name: "m", Arity: 2}, api.Member{Name: "o"}, api.Member{Name: "n", Arity: 1}, api.Member{Name: "k"})
	holdMembers(t, bare("A", ""), "A")
	for _, s := range []string{"D", "", "a", "m", "int", "?"} {
		holdMembers(t, deep(), s)
		holdMembers(t, nil, s)
	}
}

// TestFaultyMembers holds what classes of tables with faults have.
func TestFaultyMembers(t *testing.T) {
	l := []api.Class{
		class("A", "B", vars("x", "int", "x", "str"), sig("m", "int", "a", "?"), sig("n", "int"), sig("m", "str", "b", "?", "c", "X"), sig("x", "x")),
		class("B", "A", vars("m", "", "x", "real"), sig("n", "?", "", ""), sig("", "", "A", "a")),
		class("A", "", vars("z", "int"), sig("z", "int")),
	}
	holdFields(t, l, "A", "m", "", "x", "real", "x", "int", "x", "str")
	holdFields(t, l, "B", "x", "int", "x", "str", "m", "", "x", "real")
	holdMethods(t, l, "A", l[0].Methods[1], l[1].Methods[1], l[0].Methods[2], l[0].Methods[3])
	holdMethods(t, l, "B", l[0].Methods[2], l[1].Methods[0], l[0].Methods[3], l[1].Methods[1])
	holdMembers(t, l, "A",
		api.Member{Name: "m", Arity: -1}, api.Member{Name: "x", Arity: -1}, api.Member{Name: "x", Arity: -1}, api.Member{Name: "x", Arity: -1},
		api.Member{Name: "n"}, api.Member{Name: "", Arity: 1}, api.Member{Name: "m", Arity: 2}, api.Member{Name: "x"})
}

// P5.3

func holdField(t *testing.T, l []api.Class, class, name, typ string, is bool) {
	t.Helper()
	if s, ok := table.Field(l, class, name); s != typ || ok != is {
		t.Errorf("Field %q of %q: %q %t, not %q %t", name, class, s, ok, typ, is)
	}
}

func TestField(t *testing.T) {
	holdField(t, two(), "B", "x", "int", true)
	holdField(t, two(), "B", "y", "A", true)
	holdField(t, two(), "A", "x", "int", true)
	holdField(t, two(), "A", "y", "", false)
	holdField(t, deep(), "C", "x", "int", true)
	holdField(t, deep(), "C", "v", "bool", true)
	holdField(t, deep(), "C", "y", "real", true)
	holdField(t, deep(), "C", "w", "?", true)
	holdField(t, deep(), "Z", "x", "str", true)
	holdField(t, deep(), "B", "z", "", false)
	for _, s := range []string{"m", "n", "", "A", "X", "int", "?", "xx", " x"} {
		holdField(t, two(), "B", s, "", false)
		holdField(t, nil, s, "x", "", false)
		if s != "A" {
			holdField(t, two(), s, "x", "", false)
		}
	}
}

func holdMethod(t *testing.T, l []api.Class, class, name string, m api.Sig, whose string, is bool) {
	t.Helper()
	got, of, ok := table.Method(l, class, name)
	if got.Name != m.Name || got.Result != m.Result || !slices.Equal(got.Params, m.Params) || of != whose || ok != is {
		t.Errorf("Method %q of %q: %v %q %t, not %v %q %t", name, class, got, of, ok, m, whose, is)
	}
}

func TestMethod(t *testing.T) {
	l := two()
	holdMethod(t, l, "A", "m", l[0].Methods[0], "A", true)
	holdMethod(t, l, "B", "m", l[1].Methods[0], "B", true)
	holdMethod(t, l, "B", "n", l[1].Methods[1], "B", true)
	holdMethod(t, l, "A", "n", api.Sig{}, "", false)
	l = deep()
	holdMethod(t, l, "C", "m", l[0].Methods[1], "C", true)
	holdMethod(t, l, "C", "n", l[1].Methods[0], "B", true)
	holdMethod(t, l, "C", "o", l[3].Methods[1], "A", true)
	holdMethod(t, l, "B", "m", l[1].Methods[1], "B", true)
	holdMethod(t, l, "B", "o", l[3].Methods[1], "A", true)
	for _, s := range []string{"x", "", "A", "X", "int", "?", "mm", " m"} {
		holdMethod(t, l, "C", s, api.Sig{}, "", false)
		holdMethod(t, nil, s, "m", api.Sig{}, "", false)
		if s != "A" {
			holdMethod(t, l, s, "m", api.Sig{}, "", false)
		}
	}
}

func holdArity(t *testing.T, l []api.Class, class, name string, n int, is bool) {
	t.Helper()
	if got, ok := table.Arity(l, class, name); got != n || ok != is {
		t.Errorf("Arity of %q of %q: %d %t, not %d %t", name, class, got, ok, n, is)
	}
}

func TestArity(t *testing.T) {
	holdArity(t, two(), "B", "n", 0, true)
	holdArity(t, two(), "B", "m", 1, true)
	holdArity(t, two(), "B", "x", -1, true)
	holdArity(t, two(), "B", "y", -1, true)
	holdArity(t, two(), "A", "y", 0, false)
	holdArity(t, two(), "A", "n", 0, false)
	holdArity(t, deep(), "C", "m", 2, true)
	holdArity(t, deep(), "C", "n", 1, true)
	holdArity(t, deep(), "C", "o", 0, true)
	holdArity(t, deep(), "C", "v", -1, true)
	for n := range 20 {
		holdArity(t, []api.Class{class("A", "", nil, api.Sig{Name: "m", Params: manyVars(n)})}, "A", "m", n, true)
	}
	for _, s := range []string{"", "A", "X", "int", "?", "xx", " x"} {
		holdArity(t, two(), "B", s, 0, false)
		holdArity(t, nil, s, "x", 0, false)
		if s != "A" {
			holdArity(t, two(), s, "x", 0, false)
		}
	}
}

// TestFirst holds which one counts of several things with one name, in tables with faults.
func TestFirst(t *testing.T) {
	l := []api.Class{
		class("B", "A", vars("x", "str", "y", "bool", "y", "unit", "p", "?"), sig("m", "str", "a", "int"), sig("m", "str", "b", "int", "c", "int"), sig("q", "?")),
		class("A", "B", vars("x", "int", "x", "real"), sig("m", "int"), sig("y", "int"), sig("p", "int"), sig("n", "A"), sig("n", "B", "a", "A", "b", "B", "c", "C")),
		class("A", "", vars("z", "int"), sig("z", "int")),
	}
	holdField(t, l, "B", "x", "int", true)
	holdField(t, l, "A", "x", "str", true)
	holdField(t, l, "B", "y", "bool", true)
	holdField(t, l, "A", "z", "", false)
	holdMethod(t, l, "B", "m", l[0].Methods[0], "B", true)
	holdMethod(t, l, "A", "m", l[1].Methods[0], "A", true)
	holdMethod(t, l, "B", "n", l[1].Methods[3], "A", true)
	holdMethod(t, l, "A", "y", l[1].Methods[1], "A", true)
	holdMethod(t, l, "A", "z", api.Sig{}, "", false)
	holdArity(t, l, "B", "m", 2, true)
	holdArity(t, l, "A", "m", 0, true)
	holdArity(t, l, "B", "n", 3, true)
	holdArity(t, l, "A", "y", -1, true)
	holdArity(t, l, "A", "p", -1, true)
	holdArity(t, l, "A", "q", 0, true)
	holdArity(t, l, "A", "z", 0, false)
}

// What is handed in and out

// roomy returns a copy of a table each list of which has spare capacity, which holds something.
func roomy(t []api.Class) []api.Class {
	t = copyOf(t)
	for i := range t {
		c := &t[i]
		for j := range c.Methods {
			c.Methods[j].Params = append(c.Methods[j].Params, vars("spare", "Param", "spare", "Param")...)[:len(c.Methods[j].Params)]
		}
		c.Methods = append(c.Methods, sig("spare", "Method"), sig("spare", "Method"))[:len(c.Methods)]
		c.Fields = append(c.Fields, vars("spare", "Field", "spare", "Field")...)[:len(c.Fields)]
	}
	return append(t, bare("Spare", "A", "Spare", "A")...)[:len(t)]
}

// whole returns a copy of a table together with what lies behind its lists.
func whole(t []api.Class) []api.Class {
	t = slices.Clone(t[:cap(t)])
	for i := range t {
		t[i].Fields = slices.Clone(t[i].Fields[:cap(t[i].Fields)])
		t[i].Methods = slices.Clone(t[i].Methods[:cap(t[i].Methods)])
		for j := range t[i].Methods {
			p := t[i].Methods[j].Params
			t[i].Methods[j].Params = slices.Clone(p[:cap(p)])
		}
	}
	return t
}

// answers is all lists that the calls return for a table, of each of its classes.
type answers struct {
	supers  [][]string
	fields  [][]api.Var
	methods [][]api.Sig
	members [][]api.Member
	each    []api.Sig
}

func ask(t []api.Class) answers {
	var a answers
	table.Check(t)
	for i := range t {
		s := t[i].Name
		a.supers = append(a.supers, table.Supers(t, s))
		a.fields = append(a.fields, table.Fields(t, s))
		a.methods = append(a.methods, table.Methods(t, s))
		a.members = append(a.members, table.Members(t, s))
		for _, m := range table.Methods(t, s) {
			x, _, _ := table.Method(t, s, m.Name)
			a.each = append(a.each, x)
		}
	}
	return a
}

// spoil overwrites a list and what lies behind it.
func spoil[T any](l []T, x T) {
	l = l[:cap(l)]
	for i := range l {
		l[i] = x
	}
}

func spoilSigs(l []api.Sig) {
	for _, m := range l {
		spoil(m.Params, api.Var{Name: "spoilt", Type: "Spoilt"})
	}
	spoil(l, sig("spoilt", "Spoilt"))
}

func (a answers) spoil() {
	for i := range a.supers {
		spoil(a.supers[i], "Spoilt")
		spoil(a.fields[i], api.Var{Name: "spoilt", Type: "Spoilt"})
		spoil(a.members[i], api.Member{Name: "spoilt", Arity: 9})
		spoilSigs(a.methods[i])
	}
	spoilSigs(a.each)
}

// TestNewMemory holds that answers share nothing with a table, and that a table remains as it was.
func TestNewMemory(t *testing.T) {
	twice := append(two(), class("C", "B", vars("y", "int"), sig("m", "?", "a", "int"), sig("m", "int", "a", "A", "b", "A")))
	for _, l := range [][]api.Class{two(), deep(), twice} {
		given := roomy(l)
		before := whole(given)
		first := ask(given)
		if !reflect.DeepEqual(whole(given), before) {
			t.Errorf("a call changed its table: %v", given)
		}
		first.spoil()
		if !reflect.DeepEqual(whole(given), before) {
			t.Errorf("an answer shares memory with its table: %v", given)
		}
		second := ask(given)
		if !reflect.DeepEqual(second, ask(l)) {
			t.Errorf("an answer depends on an earlier one, or on what lies behind a list: %v", second)
		}
		kept := ask(given)
		for _, c := range given {
			spoilSigs(c.Methods)
			spoil(c.Fields, api.Var{Name: "spoilt"})
		}
		spoil(given, api.Class{Name: "Spoilt"})
		if !reflect.DeepEqual(kept, second) {
			t.Errorf("an answer changes with its table: %v", kept)
		}
	}
}

// TestApart holds that no two lists of one answer share memory.
func TestApart(t *testing.T) {
	shared := vars("a", "int", "b", "?")
	l := []api.Class{
		{Name: "A", Methods: []api.Sig{{Name: "m", Params: shared, Result: "int"}, {Name: "n", Params: shared, Result: "int"}}},
		{Name: "B", Super: "A", Methods: []api.Sig{{Name: "o", Params: shared[:1], Result: "int"}}},
	}
	got := table.Methods(l, "B")
	for i := range got {
		want := table.Methods(l, "B")
		for j := range want {
			if j != i {
				spoil(want[j].Params, api.Var{Name: "spoilt"})
			}
		}
		if !slices.Equal(want[i].Params, got[i].Params) {
			t.Errorf("the parameters of %q share memory with others", got[i].Name)
		}
	}
}

// TestChanged holds that a table that a caller has changed is another one.
func TestChanged(t *testing.T) {
	l := two()
	holdValid(t, "two", l)
	holdMembers(t, l, "A", api.Member{Name: "x", Arity: -1}, api.Member{Name: "m", Arity: 1})
	l[0].Fields[0].Name = "w"
	l[0].Methods[0].Params = nil
	holdFault(t, "changed", l, api.ErrOverride, 1)
	holdField(t, l, "B", "x", "", false)
	holdField(t, l, "B", "w", "int", true)
	holdArity(t, l, "A", "m", 0, true)
	l[1].Methods[0].Params = []api.Var{}
	holdValid(t, "changed back", l)
	l[1].Name = "C"
	holdFault(t, "renamed", l, api.ErrName, 1)
	holdSupers(t, l, "B")
	holdSupers(t, l, "C", "C", "A")
	holdFind(t, l, "B", 0, false)
}
