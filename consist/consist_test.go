package consist_test

import (
	"reflect"
	"slices"
	"strconv"
	"strings"
	"testing"

	"chaperon/api"
	"chaperon/consist"
	"chaperon/table"
)

// classes makes a table of a text: classes with ; between them, each its name, or name:superclass, its fields as name=type, its methods as name(parameters)result.
func classes(text string) []api.Class {
	var t []api.Class
	for _, part := range strings.Split(text, ";") {
		words := strings.Fields(part)
		if len(words) == 0 {
			continue
		}
		c := api.Class{}
		c.Name, c.Super, _ = strings.Cut(words[0], ":")
		for _, w := range words[1:] {
			if name, rest, is := strings.Cut(w, "("); is {
				params, result, _ := strings.Cut(rest, ")")
				c.Methods = append(c.Methods, api.Sig{Name: name, Params: parameters(params), Result: result})
				continue
			}
			name, typ, _ := strings.Cut(w, "=")
			c.Fields = append(c.Fields, api.Var{Name: name, Type: typ})
		}
		t = append(t, c)
	}
	return t
}

// parameters makes parameters of types with commas between them; one may have its name and = before it.
func parameters(text string) []api.Var {
	var l []api.Var
	if text == "" {
		return nil
	}
	for i, typ := range strings.Split(text, ",") {
		v := api.Var{Name: "p" + strconv.Itoa(i), Type: typ}
		if name, own, is := strings.Cut(typ, "="); is {
			v = api.Var{Name: name, Type: own}
		}
		l = append(l, v)
	}
	return l
}

// six is the chapter's table.
const six = "A m(int)?; B m(?)int; C m(str)int; D m(int)int x=A; E next=E x=?; F next=F x=int"

// bases returns the base types.
func bases() []string {
	return []string{"int", "real", "bool", "str", "unit"}
}

// noTypes returns texts that are no types, and names of classes that hardly any table here has.
func noTypes() []string {
	return []string{
		"", " ", "a", "m", "x", "Int", "INT", "int ", " int", "integer", "in", "boolean", "string", "len", "class", "none", "this", "null", "object", "Object",
		"??", "? ", "?A", "A?", "A ", " A", "A B", "A:B", "A>B", "AB", "Aa", "AA", "A1", "A\x00", "\x00", "1", "0", "-", "Zz", "é", "\xff",
		strings.Repeat("A", 20), strings.Repeat("A", 21), strings.Repeat("A", 1000),
	}
}

// namesOf returns the names of the classes of a table.
func namesOf(l []api.Class) []string {
	var out []string
	for _, c := range l {
		out = append(out, c.Name)
	}
	return out
}

// typesOf returns the types of a valid table.
func typesOf(l []api.Class) []string {
	return append(append(bases(), "?"), namesOf(l)...)
}

// backward returns a table in the other order.
func backward(l []api.Class) []api.Class {
	l = slices.Clone(l)
	slices.Reverse(l)
	return l
}

// orders returns a table in several orders of its classes.
func orders(l []api.Class) [][]api.Class {
	out := [][]api.Class{l, backward(l)}
	for i := 1; i < len(l); i++ {
		out = append(out, append(slices.Clone(l[i:]), l[:i]...))
	}
	return out
}

func holdHas(t *testing.T, l []api.Class, s, u string, want bool) {
	t.Helper()
	if got := consist.Has(l, s, u); got != want {
		t.Errorf("%v: Has %q %q: %t", l, s, u, got)
	}
}

func holdGoes(t *testing.T, l []api.Class, s, u string, want bool) {
	t.Helper()
	if got := consist.Goes(l, s, u); got != want {
		t.Errorf("%v: Goes %q %q: %t", l, s, u, got)
	}
}

// holdNothing holds that a type has nothing to do with another one, either way round.
func holdNothing(t *testing.T, l []api.Class, s, u string) {
	t.Helper()
	for range 2 {
		holdHas(t, l, s, u, false)
		holdGoes(t, l, s, u, false)
		s, u = u, s
	}
}

// holdValid holds that a table has no fault: what is asked of it is not refused for that.
func holdValid(t *testing.T, l []api.Class) {
	t.Helper()
	if f := table.Check(l); f != (api.Fault{}) {
		t.Fatalf("%v: the fault %v", l, f)
	}
}

// holdTable holds Has and Goes of all types of a table of classes with one letter each, in several orders.
// Of two classes, just the pairs that has and goes list have members and go, beside each class and itself.
func holdTable(t *testing.T, text, has, goes string) {
	t.Helper()
	hasPairs, goesPairs := strings.Fields(has), strings.Fields(goes)
	for _, l := range orders(classes(text)) {
		holdValid(t, l)
		names := namesOf(l)
		for _, s := range names {
			for _, u := range names {
				holdHas(t, l, s, u, s == u || slices.Contains(hasPairs, s+u))
				holdGoes(t, l, s, u, s == u || slices.Contains(goesPairs, s+u))
			}
		}
		holdOthers(t, l)
	}
}

// holdOthers holds Has and Goes of all pairs of types of a valid table that are not two classes.
func holdOthers(t *testing.T, l []api.Class) {
	t.Helper()
	for _, s := range typesOf(l) {
		holdGoes(t, l, s, "?", true)
		holdGoes(t, l, "?", s, true)
		holdHas(t, l, s, "?", false)
		holdHas(t, l, "?", s, false)
		for _, b := range bases() {
			holdGoes(t, l, s, b, s == b || s == "?")
			holdGoes(t, l, b, s, s == b || s == "?")
			holdHas(t, l, s, b, false)
			holdHas(t, l, b, s, false)
		}
	}
}

// The chapter's examples

func TestGoesExamples(t *testing.T) {
	l := classes(six)
	for _, x := range []struct {
		s, u string
		want bool
	}{
		{"A", "B", true}, {"B", "A", true}, {"A", "C", false}, {"B", "C", true}, {"D", "B", true}, {"B", "D", false},
		{"E", "F", true}, {"F", "E", true}, {"E", "A", false}, {"int", "?", true}, {"?", "A", true}, {"int", "real", false}, {"Z", "?", false},
	} {
		holdGoes(t, l, x.s, x.u, x.want)
	}
}

func TestHasExamples(t *testing.T) {
	l := classes(six)
	holdHas(t, l, "D", "A", true)
	holdHas(t, l, "A", "D", false)
	holdHas(t, l, "A", "?", false)
	holdHas(t, l, "E", "F", true)
}

// TestExamplesWhole holds all pairs of the chapter's table.
func TestExamplesWhole(t *testing.T) {
	holdTable(t, six, "AB BA AC CA BC CB DA DB DC EF FE", "AB BA BC CB DA DB EF FE")
}

// P7.1 and P7.2, one thing at a time

// TestFields holds that a field must be there, of that name, and that its types must go both ways.
func TestFields(t *testing.T) {
	holdTable(t, "A x=int; B x=int", "AB BA", "AB BA")
	holdTable(t, "A x=int; B x=real", "AB BA", "")
	holdTable(t, "A x=int; B x=?", "AB BA", "AB BA")
	holdTable(t, "A x=?; B x=?", "AB BA", "AB BA")
	holdTable(t, "A x=int; B y=int", "", "")
	holdTable(t, "A x=int y=str; B x=int; C y=str", "AB AC", "AB AC")
	holdTable(t, "A x=int y=str; B y=str x=int", "AB BA", "AB BA")
	holdTable(t, "A x=int y=str; B y=int x=str", "AB BA", "")
	// What is only consistent is not so by way of another one.
	holdTable(t, "A x=int; B x=?; C x=str", "AB BA AC CA BC CB", "AB BA BC CB")
}

// TestBaseMembers holds that members of two base types, whichever they are, do not go to one another.
func TestBaseMembers(t *testing.T) {
	for _, b := range bases() {
		for _, c := range bases() {
			goes := "BA AB "
			if b != c {
				goes = ""
			}
			holdTable(t, "A x="+b+"; B x="+c, "AB BA", goes)
			holdTable(t, "A m()"+b+"; B m()"+c, "AB BA", goes)
			holdTable(t, "A m("+b+")?; B m("+c+")?", "AB BA", goes)
		}
		holdTable(t, "A x="+b+"; B x=A; C x=?", "AB BA AC CA BC CB", "AC CA BC CB")
	}
}

// TestFieldsBothWays holds fields whose types go one way only: S and L go to one another neither way round, though L goes to S.
func TestFieldsBothWays(t *testing.T) {
	holdTable(t, "S v=int; L v=int w=int; A x=S; B x=L", "LS AB BA", "LS")
	holdTable(t, "S v=int; L:S w=int; A x=S; B x=L", "LS AB BA", "LS")
	holdTable(t, "S v=int; L v=int; A x=S; B x=L", "LS SL AB BA", "LS SL AB BA")
	holdTable(t, "S v=int; L v=?; A x=S; B x=L", "LS SL AB BA", "LS SL AB BA")
}

// TestResults holds that the result of the one that goes, goes to the other one's.
func TestResults(t *testing.T) {
	holdTable(t, "A m()int; B m()int", "AB BA", "AB BA")
	holdTable(t, "A m()int; B m()str", "AB BA", "")
	holdTable(t, "A m()int; B m()?", "AB BA", "AB BA")
	holdTable(t, "S v=int; L v=int w=int; A m()S; B m()L", "LS AB BA", "LS BA")
	holdTable(t, "S v=int; L:S w=int; A m()S; B m()L", "LS AB BA", "LS BA")
	holdTable(t, "S; A m()S; B m()int; C m()?", "AS BS CS AB BA AC CA BC CB", "AS BS CS AC CA BC CB")
}

// TestParameters holds that each parameter of the other one goes to that of the one that goes.
func TestParameters(t *testing.T) {
	holdTable(t, "A m(int)int; B m(int)int", "AB BA", "AB BA")
	holdTable(t, "A m(int)int; B m(str)int", "AB BA", "")
	holdTable(t, "A m(int)int; B m(?)int", "AB BA", "AB BA")
	holdTable(t, "S v=int; L v=int w=int; A m(S)int; B m(L)int", "LS AB BA", "LS AB")
	holdTable(t, "S v=int; L:S w=int; A m(S)int; B m(L)int", "LS AB BA", "LS AB")
	// Names of parameters do not matter, but their places do.
	holdTable(t, "A m(a=int,b=str)int; B m(c=int,d=str)int", "AB BA", "AB BA")
	holdTable(t, "A m(a=int,b=str)int; B m(b=int,a=str)int", "AB BA", "AB BA")
	holdTable(t, "A m(a=int,b=str)int; B m(a=str,b=int)int", "AB BA", "")
}

// TestManyParameters holds methods of all numbers of parameters, which differ in one place only.
func TestManyParameters(t *testing.T) {
	for n := 1; n <= api.MaxParams; n++ {
		for k := range n {
			params := slices.Repeat([]string{"int"}, n)
			text := "S v=int; L:S w=int; A m(" + strings.Join(params, ",") + ")int; "
			for i, typ := range []string{"str", "?", "S", "L"} {
				params[k] = typ
				text += "BCDE"[i:i+1] + " m(" + strings.Join(params, ",") + ")int; "
			}
			holdTable(t, text, "LS AB AC AD AE BA BC BD BE CA CB CD CE DA DB DC DE EA EB EC ED", "LS AC BC CA CB CD CE DC DE EC")
		}
	}
}

// TestParametersAndResults holds that parameters go one way and results the other one, in the same method.
func TestParametersAndResults(t *testing.T) {
	types := "S v=int; L v=int w=int; "
	holdTable(t, types+"A m(S)L; B m(L)S", "LS AB BA", "LS AB")
	holdTable(t, types+"A m(S)S; B m(L)L", "LS AB BA", "LS")
	holdTable(t, types+"A m(S)int; B m(L)?", "LS AB BA", "LS AB")
	holdTable(t, types+"A m(S)int; B m(L)str", "LS AB BA", "LS")
	holdTable(t, types+"A m(S,L)int; B m(L,S)int", "LS AB BA", "LS")
	holdTable(t, types+"A m(S,S)int; B m(L,S)int; C m(L,L)int", "LS AB BA AC CA BC CB", "LS AB AC BC")
}

// TestArities holds that a method has as many parameters, and is no field.
func TestArities(t *testing.T) {
	holdTable(t, "A m()int; B m(int)int; C m(int,int)int; D m=int", "", "")
	holdTable(t, "A m()?; B m(?)?; C m(?,?)?; D m=?", "", "")
	holdTable(t, "A m()? n()?; B m()? n(?)?; C n(?)?", "BC", "BC")
	holdTable(t, "A m()? n()?; B m()? n=?; C n=?", "BC", "BC")
	holdTable(t, "A n=? m()?; B m=? n()?; C n=?; D m()?", "AC AD", "AC AD")
	for n := range api.MaxParams + 1 {
		for k := range api.MaxParams + 1 {
			l := classes("A m(" + strings.Join(slices.Repeat([]string{"?"}, n), ",") + ")?; B m(" + strings.Join(slices.Repeat([]string{"?"}, k), ",") + ")?")
			holdHas(t, l, "A", "B", n == k)
			holdGoes(t, l, "A", "B", n == k)
		}
	}
}

// TestFieldsAndMethods holds classes with both, of which one thing fails.
func TestFieldsAndMethods(t *testing.T) {
	holdTable(t, "A x=int m(int)int; B x=? m(?)?; C x=str m(int)int; D x=int m(str)int; E x=int m(int)str; F x=int m(int)int y=int",
		"AB AC AD AE BA BC BD BE CA CB CD CE DA DB DC DE EA EB EC ED FA FB FC FD FE",
		"AB BA BC BD BE CB DB EB FA FB")
	holdTable(t, "A x=int m()int; B x=int; C m()int", "AB AC", "AB AC")
}

// TestNoMembers holds that everything that is a class goes to one without members, and it to nothing that has any.
func TestNoMembers(t *testing.T) {
	holdTable(t, "A; B; C", "AB AC BA BC CA CB", "AB AC BA BC CA CB")
	holdTable(t, "A; B x=int; C m()int", "BA CA", "BA CA")
	holdTable(t, "A; B:A; C:B x=A; D x=B", "AB BA CA CB DA DB CD DC", "AB BA CA CB DA DB CD DC")
	holdTable(t, "A", "", "")
}

// TestSuperclasses holds that a class goes to its superclasses, and that it has what they have, under whatever name.
func TestSuperclasses(t *testing.T) {
	holdTable(t, "A x=int; B:A; C:B y=str; D:A z=real", "AB BA CA CB DA DB", "AB BA CA CB DA DB")
	// X has what C has from B and A, and the other way round.
	holdTable(t, "A x=int; B:A m(int)str; C:B; X m(int)str x=int; Y m(int)str", "BA CA CB BC XA XB XC BX CX XY BY CY", "BA CA CB BC XA XB XC BX CX XY BY CY")
	holdTable(t, "A x=int; B:A y=int; X x=str y=int; Y x=? y=int", "BA XA XB BX YA YB BY XY YX", "BA YA YB BY XY YX")
	// A method that is declared again is the same one.
	holdTable(t, "A m(int)str; B:A m(int)str; C:B; X m(int)?; Y m(str)?", "AB AC AX AY BA BC BX BY CA CB CX CY XA XB XC XY YA YB YC YX", "AB AC AX BA BC BX CA CB CX XA XB XC")
	// The superclass says something of the class itself.
	holdTable(t, "A me=A; B:A you=B; X me=X; Y me=Y you=Y", "BA AX XA BX BY YA YX YB", "BA AX XA BX")
	holdTable(t, "A me()A; B:A you()B; X me()X; Y me()Y you()Y", "BA AX XA BX BY YA YX YB", "BA AX XA BX YA YX YB")
}

// TestCycles holds classes that refer to themselves or to one another: what nothing contradicts goes.
func TestCycles(t *testing.T) {
	holdTable(t, "A next=A; B next=B", "AB BA", "AB BA")
	holdTable(t, "A m(A)A; B m(B)B", "AB BA", "AB BA")
	holdTable(t, "A m(A)int; B m(B)str", "AB BA", "")
	holdTable(t, "A next=B; B next=A", "AB BA", "AB BA")
	holdTable(t, "A next=B; B next=A; C next=C", "AB BA AC CA BC CB", "AB BA AC CA BC CB")
	holdTable(t, "A next=B x=int; B next=A x=str; C next=C x=int", "AB BA AC CA BC CB", "")
	holdTable(t, "A next=B x=int; B next=A x=?; C next=C x=int", "AB BA AC CA BC CB", "AB BA AC CA BC CB")
	// Of two cycles of two and of three classes all go to one another, but for one that stands in the way of all.
	holdTable(t, "A n=B; B n=A; C n=D; D n=E; E n=C", "AB AC AD AE BA BC BD BE CA CB CD CE DA DB DC DE EA EB EC ED", "AB AC AD AE BA BC BD BE CA CB CD CE DA DB DC DE EA EB EC ED")
	holdTable(t, "A n=B x=?; B n=A x=?; C n=D x=?; D n=E x=int; E n=C x=str", "AB AC AD AE BA BC BD BE CA CB CD CE DA DB DC DE EA EB EC ED", "AB AC AD AE BA BC BD BE CA CB DA DB EA EB")
	// A parameter's way is turned round again in the parameter of a parameter.
	holdTable(t, "S v=int; L v=int w=int; A m(S)int; B m(L)int; C n(A)int; D n(B)int", "LS AB BA CD DC", "LS AB DC")
	holdTable(t, "A m(A)S; B m(B)L; S v=int; L v=int w=int", "LS AB BA", "LS")
	holdTable(t, "A m(?)S; B m(B)L; S v=int; L v=int w=int", "LS AB BA", "LS BA")
}

// TestStruckLater holds pairs of which nothing speaks against but other pairs, which are struck out before.
func TestStruckLater(t *testing.T) {
	holdTable(t, "A n=B; B x=int; C n=D; D x=str", "AC CA BD DB", "")
	holdTable(t, "A n=B; B n=C; C n=D; D x=int; E n=F; F n=G; G n=H; H x=str", "AB AC AE AF AG BA BC BE BF BG CA CB CE CF CG EA EB EC EF EG FA FB FC FE FG GA GB GC GE GF DH HD", "")
	holdTable(t, "A n=B; B n=?; C n=D; D n=?; E n=F; F n=int", "AB AC AD AE AF BA BC BD BE BF CA CB CD CE CF DA DB DC DE DF EA EB EC ED EF FA FB FC FD FE", "AB AC AD AE BA BC BD BE BF CA CB CD CE DA DB DC DE DF EA EB EC ED FB FD")
	// Results alone go one way: so does what follows from them.
	holdTable(t, "A n()B; B n()C; C x=int y=int; D n()E; E n()F; F x=int", "AB BA AD DA AE EA BD DB BE EB DE ED CF", "AD BE CF")
}

// Rings and rows of as many classes as a table may have

// ring returns n classes, each with a field that has the next one, the last one the first; x of the last one has another type.
func ring(name string, n int, last string) string {
	text := ""
	for i := range n {
		typ := "?"
		if i == n-1 {
			typ = last
		}
		text += name + strconv.Itoa(i) + " n=" + name + strconv.Itoa((i+1)%n) + " x=" + typ + "; "
	}
	return text
}

// holdWhole holds Goes of all pairs of classes of a table, or of a third of many, in two orders, and that each class has the other's members.
func holdWhole(t *testing.T, text string, goes func(s, u string) bool) {
	t.Helper()
	for _, l := range [][]api.Class{classes(text), backward(classes(text))} {
		holdValid(t, l)
		for i, s := range namesOf(l) {
			for k, u := range namesOf(l) {
				if len(l) > 20 && (i+k)%3 > 0 {
					continue
				}
				if got := consist.Goes(l, s, u); got != goes(s, u) || !consist.Has(l, s, u) {
					t.Errorf("%s: Goes %s %s: %t", text, s, u, got)
				}
			}
		}
	}
}

// TestRings holds two rings of one length, and of two that have no common divisor.
func TestRings(t *testing.T) {
	for _, last := range []string{"int", "?"} {
		holdWhole(t, ring("A", 6, "int")+ring("B", 6, last), func(s, u string) bool { return true })
		holdWhole(t, ring("A", 5, "int")+ring("B", 6, last), func(s, u string) bool { return true })
	}
	holdWhole(t, ring("A", 6, "int")+ring("B", 6, "str"), func(s, u string) bool { return s[:1] == u[:1] || s[1:] != u[1:] })
	holdWhole(t, ring("A", 5, "int")+ring("B", 6, "str"), func(s, u string) bool { return s[:1] == u[:1] })
	holdWhole(t, ring("A", 20, "int")+ring("B", 20, "str"), func(s, u string) bool { return s[:1] == u[:1] || s[1:] != u[1:] })
}

// row returns n classes, each with a field that has the next one; the last one has a field that differs.
func row(name string, n int, last string) string {
	return strings.Replace(ring(name, n, last), "n="+name+"0", "n=?", 1)
}

// TestRows holds that the ends of two rows tell apart all that is as far from them, one after the other.
func TestRows(t *testing.T) {
	for _, n := range []int{1, 2, 7, 20} {
		holdWhole(t, row("A", n, "int")+row("B", n, "str"), func(s, u string) bool { return s[:1] == u[:1] || s[1:] != u[1:] })
		holdWhole(t, row("A", n, "int")+row("B", n, "int"), func(s, u string) bool { return true })
	}
}

// TestCounter holds 400 pairs that are struck out one after the other: from each of them only the next one follows, and the last one fails.
func TestCounter(t *testing.T) {
	text := func(last string) string {
		text := ""
		for i := range 20 {
			a, b := strconv.Itoa(i), strconv.Itoa(i+1)
			if i < 19 {
				text += "A" + a + " f=A" + a + " g=A" + b + " h=?; B" + a + " f=B" + b + " g=? h=?; "
			}
		}
		return text + "A19 f=A19 g=? h=int; B19 f=? g=B0 h=" + last
	}
	for _, x := range []struct {
		last string
		goes bool
	}{{"str", false}, {"int", true}, {"?", true}} {
		for _, l := range [][]api.Class{classes(text(x.last)), backward(classes(text(x.last)))} {
			holdValid(t, l)
			for _, pair := range []string{"A0 B0", "A0 B19", "A7 B13", "A19 B0", "A19 B19"} {
				s, u, _ := strings.Cut(pair, " ")
				holdGoes(t, l, s, u, x.goes)
				holdGoes(t, l, u, s, x.goes)
				holdHas(t, l, s, u, true)
			}
		}
	}
}

// full returns a table of 40 classes, each with 20 fields and 20 methods of eight parameters, all of the type that typ says.
func full(typ func(class, member int) string) []api.Class {
	var l []api.Class
	for i := range api.MaxClasses {
		c := api.Class{Name: "C" + strconv.Itoa(i)}
		for k := range api.MaxMembers {
			of := typ(i, k)
			c.Fields = append(c.Fields, api.Var{Name: "f" + strconv.Itoa(k), Type: of})
			m := api.Sig{Name: "m" + strconv.Itoa(k), Result: of}
			for p := range api.MaxParams {
				m.Params = append(m.Params, api.Var{Name: "p" + strconv.Itoa(p), Type: of})
			}
			c.Methods = append(c.Methods, m)
		}
		l = append(l, c)
	}
	return l
}

// TestFull holds the largest table, of classes which differ in their last members only.
func TestFull(t *testing.T) {
	l := full(func(class, member int) string {
		if member < api.MaxMembers-1 {
			return "C" + strconv.Itoa((class+member)%api.MaxClasses)
		}
		return []string{"int", "?"}[class%2]
	})
	holdValid(t, l)
	for i := 0; i < api.MaxClasses; i += 3 {
		holdHas(t, l, "C0", l[i].Name, true)
		holdGoes(t, l, l[i].Name, "C1", true)
	}
	l[7].Methods[19].Params[7].Type = "str"
	// Each class refers to the next one, so that all that are as far from one another as the eighth from one with an int are told apart.
	holdGoes(t, l, "C7", "C0", false)
	holdGoes(t, l, "C7", "C8", false)
	holdGoes(t, l, "C0", "C1", false)
	holdGoes(t, l, "C0", "C0", true)
	holdHas(t, l, "C0", "C7", true)
	l[7].Methods[19].Params = l[7].Methods[19].Params[:7]
	holdHas(t, l, "C0", "C7", false)
	holdGoes(t, l, "C0", "C7", false)
	holdHas(t, l, "C0", "C8", true)
}

// TestLine holds 40 classes on one line, each with a member of its own: a class goes to those above it.
func TestLine(t *testing.T) {
	text := "C0 f0=C39 m0(C0)C39; "
	for i := 1; i < api.MaxClasses; i++ {
		at := strconv.Itoa(i)
		text += "C" + at + ":C" + strconv.Itoa(i-1) + " f" + at + "=? m" + at + "(C" + at + ")C0; "
	}
	for first, l := range [][]api.Class{classes(text), backward(classes(text))} {
		holdValid(t, l)
		for i := range api.MaxClasses {
			for k := first; k < api.MaxClasses; k += 2 {
				holdHas(t, l, "C"+strconv.Itoa(i), "C"+strconv.Itoa(k), i >= k)
				holdGoes(t, l, "C"+strconv.Itoa(i), "C"+strconv.Itoa(k), i >= k)
			}
		}
	}
}

// Wrong inputs

// TestNoTypes holds that a text that is no type of the table does not even go to itself, or to ?.
func TestNoTypes(t *testing.T) {
	for _, text := range []string{"", six, "A; B:A", "Int; Str:Int"} {
		l := classes(text)
		holdValid(t, l)
		for _, s := range noTypes() {
			if slices.Contains(namesOf(l), s) {
				continue
			}
			holdNothing(t, l, s, s)
			for _, u := range typesOf(l) {
				holdNothing(t, l, s, u)
			}
		}
		for _, s := range []string{"", "Zz", "a"} {
			for _, u := range []string{"", "Zz", "a", "Yy", " "} {
				holdNothing(t, l, s, u)
			}
		}
	}
}

// TestEmptyTable holds that an empty table has no classes, but base types and ?.
func TestEmptyTable(t *testing.T) {
	for _, l := range [][]api.Class{nil, {}, classes(six)[:0]} {
		holdOthers(t, l)
		for _, s := range []string{"A", "B", "C", ""} {
			holdNothing(t, l, s, s)
			holdNothing(t, l, s, "?")
			holdNothing(t, l, s, "int")
		}
	}
}

// many returns n times a text, with %'s instead of which there is a number.
func many(n int, text string) string {
	all := ""
	for i := range n {
		all += strings.ReplaceAll(text, "%", strconv.Itoa(i))
	}
	return all
}

// faulty is a table with a fault, as a text.
type faulty struct {
	err  api.Errno
	text string
}

// faults returns a table or more for each sort of a fault.
func faults() []faulty {
	return []faulty{
		{api.ErrMany, many(41, "C%; ")},
		{api.ErrMany, "Z " + many(21, "x%=int ")},
		{api.ErrMany, "Z " + many(21, "m%()int ")},
		{api.ErrMany, "Z m(int" + many(8, ",int") + ")int"},
		{api.ErrForm, "z"},
		{api.ErrForm, ":Z; Z"},
		{api.ErrForm, ":"},
		{api.ErrForm, "int"},
		{api.ErrForm, "?"},
		{api.ErrForm, strings.Repeat("Z", 21)},
		{api.ErrForm, "Z X=int"},
		{api.ErrForm, "Z if=int"},
		{api.ErrForm, "Z =int"},
		{api.ErrForm, "Z x="},
		{api.ErrForm, "Z x=a"},
		{api.ErrForm, "Z M()int"},
		{api.ErrForm, "Z m()"},
		{api.ErrForm, "Z m()??"},
		{api.ErrForm, "Z m(A=int)int"},
		{api.ErrForm, "Z m(a=a)int"},
		{api.ErrName, "Z:Y"},
		{api.ErrName, "Z:int"},
		{api.ErrName, "Z x=Y"},
		{api.ErrName, "Z m()Y"},
		{api.ErrName, "Z m(Y)int"},
		{api.ErrDouble, "Z; Z"},
		{api.ErrDouble, "Z x=int x=int"},
		{api.ErrDouble, "Z m()int m()int"},
		{api.ErrDouble, "Z m=int m()int"},
		{api.ErrDouble, "Z m(a=int,a=int)int"},
		{api.ErrDouble, "Y x=int; Z:Y x=int"},
		{api.ErrDouble, "Y x=int; Z:Y x()int"},
		{api.ErrDouble, "Y x()int; Z:Y x=int"},
		{api.ErrCycle, "Z:Z"},
		{api.ErrCycle, "Y:Z; Z:Y"},
		{api.ErrCycle, "X:Z; Y:X; Z:Y"},
		{api.ErrOverride, "Y m()int; Z:Y m()?"},
		{api.ErrOverride, "Y m(int)int; Z:Y m(?)int"},
		{api.ErrOverride, "Y m(int)int; Z:Y m()int"},
		{api.ErrOverride, "Y m()int; Z:Y m(int)int"},
		{api.ErrOverride, "X m()int; Y:X; Z:Y m()str"},
		{api.ErrOverride, "Y m(int,str)int; X:Y; Z:X m(str,int)int"},
	}
}

// TestFaultyTables holds that a table with a fault has no types: not even a base type goes to itself, or to ?.
func TestFaultyTables(t *testing.T) {
	for _, x := range faults() {
		for _, l := range [][]api.Class{classes(x.text), classes(six + ";" + x.text), classes(x.text + ";" + six)} {
			if f := table.Check(l); f.Err != x.err {
				t.Fatalf("%q: the fault %v", x.text, f)
			}
			for _, s := range append(typesOf(l), "", "V", "a") {
				for _, u := range []string{s, "?", "int", "A", "B", l[0].Name, l[len(l)-1].Name} {
					holdNothing(t, l, s, u)
				}
			}
		}
		if t.Failed() {
			t.Fatalf("the table %q", x.text)
		}
	}
}

// TestNoFault holds that what the tables with a fault are made of is valid: the faults alone are to blame.
func TestNoFault(t *testing.T) {
	for _, text := range []string{
		many(34, "C%; "), "Z " + many(20, "x%=int "), "Z " + many(20, "m%()int "), "Z m(int" + many(7, ",int") + ")int", strings.Repeat("Z", 20), "Z x=Z m(Z)Z y=A",
		"Y:Z; Z", "Z:A", "Y x=int; Z x=int", "Y m()int; Z:Y m()int", "Y m(int,str)int; X:Y; Z:X m(c=int,b=str)int",
	} {
		l := classes(six + ";" + text)
		holdValid(t, l)
		holdGoes(t, l, "A", "B", true)
		holdGoes(t, l, "A", "C", false)
		holdGoes(t, l, "E", "F", true)
		holdHas(t, l, "D", "A", true)
		for _, s := range typesOf(l) {
			holdGoes(t, l, s, s, true)
			holdGoes(t, l, s, "?", true)
			holdGoes(t, l, "?", s, true)
		}
	}
}

// What is handed in

// copyOf copies a table in depth.
func copyOf(l []api.Class) []api.Class {
	l = slices.Clone(l)
	for i := range l {
		l[i].Fields = slices.Clone(l[i].Fields)
		l[i].Methods = slices.Clone(l[i].Methods)
		for k := range l[i].Methods {
			l[i].Methods[k].Params = slices.Clone(l[i].Methods[k].Params)
		}
	}
	return l
}

// TestNothingChanged holds that no call changes a table, or what lies behind it, or looks at that.
func TestNothingChanged(t *testing.T) {
	l := classes(six + "; S x=S")
	l[3].Fields = append(l[3].Fields, api.Var{Name: "spare"})[:1]
	before := copyOf(l[:cap(l)])
	spare := l[3].Fields[:2][1]
	l = l[:6]
	ask := func() (said []bool) {
		for _, s := range append(typesOf(l), "S") {
			for _, u := range append(typesOf(l), "S") {
				said = append(said, consist.Has(l, s, u), consist.Goes(l, s, u))
			}
		}
		return said
	}
	first := ask()
	if !slices.Equal(first, ask()) {
		t.Error("an answer depends on an earlier one")
	}
	if !reflect.DeepEqual(l[:cap(l)], before) || l[3].Fields[:2][1] != spare {
		t.Errorf("a call changed its table: %v", l[:cap(l)])
	}
	holdNothing(t, l, "S", "?")
	clear(l[6:cap(l)])
	if !slices.Equal(first, ask()) {
		t.Error("an answer depends on what lies behind a table")
	}
}

// TestChanged holds that a table that a caller has changed is another one.
func TestChanged(t *testing.T) {
	l := classes(six)
	holdGoes(t, l, "E", "F", true)
	l[4].Fields[1].Type = "str"
	holdGoes(t, l, "E", "F", false)
	l[5].Fields[1].Type = "?"
	holdGoes(t, l, "E", "F", true)
	holdGoes(t, l, "A", "C", false)
	l[0].Methods[0].Params[0].Type = "?"
	holdGoes(t, l, "A", "C", true)
	l[0].Super = "A"
	holdGoes(t, l, "A", "C", false)
	holdHas(t, l, "A", "C", false)
	l[0].Super = ""
	holdHas(t, l, "A", "C", true)
	l[2].Methods[0].Params = nil
	holdHas(t, l, "A", "C", false)
	holdGoes(t, l, "A", "C", false)
}
