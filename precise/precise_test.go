package precise_test

import (
	"reflect"
	"slices"
	"strconv"
	"strings"
	"testing"

	"chaperon/api"
	"chaperon/precise"
	"chaperon/table"
)

// classes makes a table of a text: classes with ; between them, each its name, or name:superclass, its fields as name=type, its methods as name(parameters)result.
func classes(text string) []api.Class {
	var t []api.Class
	for _, part := range strings.Split(text, ";") {
		words := strings.Fields(part)
		if len(words) == 0 {
			continue
		}
		c := api.Class{}
		c.Name, c.Super, _ = strings.Cut(words[0], ":")
		for _, w := range words[1:] {
			if name, rest, is := strings.Cut(w, "("); is {
				params, result, _ := strings.Cut(rest, ")")
				c.Methods = append(c.Methods, api.Sig{Name: name, Params: parameters(params), Result: result})
				continue
			}
			name, typ, _ := strings.Cut(w, "=")
			c.Fields = append(c.Fields, api.Var{Name: name, Type: typ})
		}
		t = append(t, c)
	}
	return t
}

// parameters makes parameters of types with commas between them; one may have its name and = before it.
func parameters(text string) []api.Var {
	var l []api.Var
	if text == "" {
		return nil
	}
	for i, typ := range strings.Split(text, ",") {
		v := api.Var{Name: "p" + strconv.Itoa(i), Type: typ}
		if name, own, is := strings.Cut(typ, "="); is {
			v = api.Var{Name: name, Type: own}
		}
		l = append(l, v)
	}
	return l
}

// four is the chapter's table.
const four = "A x=?; B x=int m()B; C x=int m()C; D x=int m()?"

// bases returns the base types.
func bases() []string {
	return []string{"int", "real", "bool", "str", "unit"}
}

// noTypes returns texts that are no types, and names of classes that hardly any table here has.
func noTypes() []string {
	return []string{
		"", " ", "a", "m", "x", "Int", "INT", "int ", " int", "integer", "in", "boolean", "string", "len", "class", "none", "this", "null", "object", "Object",
		"??", "? ", "?A", "A?", "A ", " A", "A B", "A:B", "A>B", "AB", "Aa", "AA", "A1", "A\x00", "\x00", "1", "0", "-", "Zz", "é", "\xff",
		strings.Repeat("A", 20), strings.Repeat("A", 21), strings.Repeat("A", 1000),
	}
}

// namesOf returns the names of the classes of a table.
func namesOf(l []api.Class) []string {
	var out []string
	for _, c := range l {
		out = append(out, c.Name)
	}
	return out
}

// typesOf returns the types of a valid table.
func typesOf(l []api.Class) []string {
	return append(append(bases(), "?"), namesOf(l)...)
}

// backward returns a table in the other order.
func backward(l []api.Class) []api.Class {
	l = slices.Clone(l)
	slices.Reverse(l)
	return l
}

// orders returns a table in several orders of its classes.
func orders(l []api.Class) [][]api.Class {
	out := [][]api.Class{l, backward(l)}
	for i := 1; i < len(l); i++ {
		out = append(out, append(slices.Clone(l[i:]), l[:i]...))
	}
	return out
}

// holdPair holds all three calls of two types, either way round: whether each one is as precise as the other one.
func holdPair(t *testing.T, l []api.Class, s, u string, there, back bool) {
	t.Helper()
	more := 0
	switch {
	case there && !back:
		more = 1
	case back && !there:
		more = -1
	}
	for range 2 {
		if got := precise.Precise(l, s, u); got != there {
			t.Errorf("%v: Precise %q %q: %t", l, s, u, got)
		}
		if got := precise.Same(l, s, u); got != (there && back) {
			t.Errorf("%v: Same %q %q: %t", l, s, u, got)
		}
		if got := precise.More(l, s, u); got != more {
			t.Errorf("%v: More %q %q: %d", l, s, u, got)
		}
		s, u, there, back, more = u, s, back, there, -more
	}
}

// holdNothing holds that a type has nothing to do with another one, either way round.
func holdNothing(t *testing.T, l []api.Class, s, u string) {
	t.Helper()
	holdPair(t, l, s, u, false, false)
}

// holdValid holds that a table has no fault: what is asked of it is not refused for that.
func holdValid(t *testing.T, l []api.Class) {
	t.Helper()
	if f := table.Check(l); f != (api.Fault{}) {
		t.Fatalf("%v: the fault %v", l, f)
	}
}

// holdTable holds all calls of all types of a table of classes with one letter each, in several orders.
// Of two classes, the first one is as precise as the second one if pairs lists them, or they are one.
func holdTable(t *testing.T, text, pairs string) {
	t.Helper()
	list := strings.Fields(pairs)
	for _, l := range orders(classes(text)) {
		holdValid(t, l)
		names := namesOf(l)
		for i, s := range names {
			for _, u := range names[i:] {
				holdPair(t, l, s, u, s == u || slices.Contains(list, s+u), s == u || slices.Contains(list, u+s))
			}
		}
		holdOthers(t, l)
	}
}

// holdOthers holds all calls of all pairs of types of a valid table that are not two classes.
func holdOthers(t *testing.T, l []api.Class) {
	t.Helper()
	for _, s := range typesOf(l) {
		holdPair(t, l, s, "?", true, s == "?")
		for _, b := range bases() {
			holdPair(t, l, s, b, s == b, s == b || s == "?")
		}
	}
}

// The chapter's examples

func TestPreciseExamples(t *testing.T) {
	l := classes(four)
	for _, x := range []struct {
		s, u string
		want bool
	}{
		{"B", "A", true}, {"A", "B", false}, {"B", "C", true}, {"C", "B", true}, {"B", "D", true}, {"D", "B", false}, {"int", "?", true}, {"int", "real", false},
	} {
		if got := precise.Precise(l, x.s, x.u); got != x.want {
			t.Errorf("Precise %s %s: %t", x.s, x.u, got)
		}
	}
}

func TestMoreExamples(t *testing.T) {
	l := classes(four)
	for _, x := range []struct {
		s, u string
		want int
	}{
		{"B", "A", 1}, {"A", "B", -1}, {"B", "C", 0}, {"A", "?", 1}, {"int", "str", 0}, {"Y", "Y", 0},
	} {
		if got := precise.More(l, x.s, x.u); got != x.want {
			t.Errorf("More %s %s: %d", x.s, x.u, got)
		}
	}
}

func TestSameExamples(t *testing.T) {
	l := classes(four)
	if !precise.Same(l, "B", "C") || precise.Same(l, "B", "D") {
		t.Error("Same B C, Same B D")
	}
}

// TestExamplesWhole holds all pairs of the chapter's table.
func TestExamplesWhole(t *testing.T) {
	holdTable(t, four, "BA CA DA BC CB BD CD")
}

// P8.1, one thing at a time

// TestMoreAnswers holds each of the three answers, for each reason that there is.
func TestMoreAnswers(t *testing.T) {
	l := classes("A x=int; B x=?; C x=int; D y=int; E; F:A; G:A z=str; H x=int y=?; I x=? y=int")
	holdValid(t, l)
	for _, x := range []struct {
		s, u string
		want int
	}{
		// Below the other one, with more members, or a type instead of ?.
		{"G", "A", 1}, {"A", "E", 1}, {"A", "B", 1}, {"G", "B", 1}, {"H", "A", 1}, {"I", "D", 1}, {"B", "E", 1}, {"A", "?", 1}, {"E", "?", 1}, {"int", "?", 1}, {"unit", "?", 1},
		// Each is as precise as the other one.
		{"A", "A", 0}, {"A", "C", 0}, {"A", "F", 0}, {"E", "E", 0}, {"?", "?", 0}, {"int", "int", 0},
		// None is.
		{"A", "D", 0}, {"B", "D", 0}, {"H", "I", 0}, {"A", "I", 0}, {"A", "int", 0}, {"E", "str", 0}, {"int", "real", 0},
		// One is no type.
		{"Y", "?", 0}, {"Y", "A", 0}, {"Y", "Z", 0}, {"", "?", 0}, {"", "", 0},
	} {
		if got := precise.More(l, x.s, x.u); got != x.want {
			t.Errorf("More %q %q: %d", x.s, x.u, got)
		}
		if got := precise.More(l, x.u, x.s); got != -x.want {
			t.Errorf("More %q %q: %d", x.u, x.s, got)
		}
	}
}

// TestSameAnswers holds that both directions count, and that classes with different names may be the same.
func TestSameAnswers(t *testing.T) {
	l := classes("A x=int; B x=?; C x=int; D y=int; E; F:A; G:A z=str")
	holdValid(t, l)
	for _, pair := range []string{"A A", "A C", "C A", "A F", "F A", "F C", "E E", "? ?", "int int", "str str"} {
		s, u, _ := strings.Cut(pair, " ")
		if !precise.Same(l, s, u) {
			t.Errorf("Same %s is false", pair)
		}
	}
	for _, pair := range []string{"A B", "B A", "A D", "A E", "E A", "G A", "A G", "A ?", "? A", "int ?", "? int", "int real", "A int", "int A", "E unit", "Y Y", "Y ?", "? Y", " "} {
		s, u, _ := strings.Cut(pair, " ")
		if precise.Same(l, s, u) {
			t.Errorf("Same %s is true", pair)
		}
	}
}

// TestDynamic holds that everything is as precise as ?, and ? only as itself, even if a class says nothing at all.
func TestDynamic(t *testing.T) {
	l := classes("A; B x=?; C m(?)?")
	holdValid(t, l)
	for _, s := range append(bases(), "A", "B", "C") {
		holdPair(t, l, s, "?", true, false)
	}
	holdPair(t, l, "?", "?", true, true)
	// In members as well.
	for _, typ := range append(bases(), "A", "S", "U") {
		types := "S; U x=S; "
		holdTable(t, types+"A y="+typ+"; B y=?", "AB US AS BS")
		holdTable(t, types+"A m()"+typ+"; B m()?", "AB US AS BS")
		holdTable(t, types+"A m("+typ+")int; B m(?)int", "AB US AS BS")
	}
}

// TestFields holds that a field must be there, of that name, and what its type must be.
func TestFields(t *testing.T) {
	holdTable(t, "A x=int; B x=int", "AB BA")
	holdTable(t, "A x=int; B x=real", "")
	holdTable(t, "A x=int; B x=?", "AB")
	holdTable(t, "A x=?; B x=?", "AB BA")
	holdTable(t, "A x=int; B y=int", "")
	holdTable(t, "A x=?; B y=?", "")
	holdTable(t, "A x=int y=str; B x=int; C y=str", "AB AC")
	holdTable(t, "A x=? y=?; B x=?; C y=int", "AB")
	holdTable(t, "A x=int y=str; B y=str x=int", "AB BA")
	holdTable(t, "A x=int y=str; B y=int x=str", "")
	holdTable(t, "A x=int y=?; B x=? y=int", "")
	holdTable(t, "A x=int y=int; B x=int y=?; C x=? y=int; D x=? y=?", "AB AC AD BD CD")
	holdTable(t, "A x=int; B x=?; C x=str", "AB CB")
	// Of classes within classes, one way only.
	holdTable(t, "S v=int; L v=int w=int; A x=S; B x=L", "LS BA")
	holdTable(t, "S v=int; L:S w=int; A x=S; B x=L", "LS BA")
	holdTable(t, "S v=int; L v=int; A x=S; B x=L", "LS SL AB BA")
	holdTable(t, "S v=int; L v=?; A x=S; B x=L", "SL AB")
}

// TestBaseMembers holds that a base type within a member is as precise as itself and ?.
func TestBaseMembers(t *testing.T) {
	for _, b := range bases() {
		for _, c := range bases() {
			pairs := "AB BA"
			if b != c {
				pairs = ""
			}
			holdTable(t, "A x="+b+"; B x="+c, pairs)
			holdTable(t, "A m()"+b+"; B m()"+c, pairs)
			holdTable(t, "A m("+b+")?; B m("+c+")?", pairs)
		}
		// A class and a base type have nothing to do with one another, be the class without members.
		holdTable(t, "A x="+b+"; B x=A; C x=?", "AC BC")
		holdTable(t, "A x="+b+"; B x=E; C x=?; E", "AC BC AE BE CE")
		holdTable(t, "A m("+b+")int; B m(E)int; C m(?)int; E", "AC BC AE BE CE")
		holdTable(t, "A m()"+b+"; B m()E; C m()?; E", "AC BC AE BE CE")
	}
}

// TestResults holds what the results of methods must be.
func TestResults(t *testing.T) {
	holdTable(t, "A m()int; B m()int", "AB BA")
	holdTable(t, "A m()int; B m()str", "")
	holdTable(t, "A m()int; B m()?", "AB")
	holdTable(t, "A m()int; B n()int", "")
	holdTable(t, "S v=int; L v=int w=int; A m()S; B m()L", "LS BA")
	holdTable(t, "S v=int; L:S w=int; A m()S; B m()L", "LS BA")
	holdTable(t, "S v=int; L v=?; A m()S; B m()L", "SL AB")
}

// TestParameters holds that the types of parameters are as precise in the same direction.
func TestParameters(t *testing.T) {
	holdTable(t, "A m(int)int; B m(int)int", "AB BA")
	holdTable(t, "A m(int)int; B m(str)int", "")
	holdTable(t, "A m(int)int; B m(?)int", "AB")
	holdTable(t, "S v=int; L v=int w=int; A m(S)int; B m(L)int", "LS BA")
	holdTable(t, "S v=int; L:S w=int; A m(S)int; B m(L)int", "LS BA")
	holdTable(t, "S v=int; L v=?; A m(S)int; B m(L)int", "SL AB")
	// Names of parameters do not matter, but their places do.
	holdTable(t, "A m(a=int,b=str)int; B m(c=int,d=str)int", "AB BA")
	holdTable(t, "A m(a=int,b=str)int; B m(b=int,a=str)int", "AB BA")
	holdTable(t, "A m(a=int,b=str)int; B m(a=str,b=int)int", "")
	holdTable(t, "A m(a=int,b=?)int; B m(a=?,b=int)int; C m(a=?,b=?)int; D m(b=int,a=int)int", "AC BC DA DB DC")
}

// TestManyParameters holds methods of all numbers of parameters, which differ in one place only.
func TestManyParameters(t *testing.T) {
	for n := 1; n <= api.MaxParams; n++ {
		for _, k := range slices.Compact([]int{0, n / 2, n - 1}) {
			params := slices.Repeat([]string{"int"}, n)
			text := "S v=int; L:S w=int; A m(" + strings.Join(params, ",") + ")int; "
			for i, typ := range []string{"str", "?", "S", "L"} {
				params[k] = typ
				text += "BCDE"[i:i+1] + " m(" + strings.Join(params, ",") + ")int; "
			}
			holdTable(t, text, "LS AC BC DC EC ED")
		}
	}
}

// TestParametersAndResults holds both in the same method: they go in the same direction.
func TestParametersAndResults(t *testing.T) {
	types := "S v=int; L v=int w=int; "
	holdTable(t, types+"A m(S)L; B m(L)S", "LS")
	holdTable(t, types+"A m(S)S; B m(L)L", "LS BA")
	holdTable(t, types+"A m(S)int; B m(L)?", "LS")
	holdTable(t, types+"A m(L)int; B m(S)?", "LS AB")
	holdTable(t, types+"A m(L)int; B m(S)str", "LS")
	holdTable(t, types+"A m(S,L)int; B m(L,S)int", "LS")
	holdTable(t, types+"A m(S,S)int; B m(L,S)int; C m(L,L)int", "LS BA CA CB")
	holdTable(t, "A m(int)?; B m(?)int; C m(?)?; D m(int)int", "AC BC DA DB DC")
}

// TestArities holds that a method has as many parameters, and is no field.
func TestArities(t *testing.T) {
	holdTable(t, "A m()int; B m(int)int; C m(int,int)int; D m=int", "")
	holdTable(t, "A m()?; B m(?)?; C m(?,?)?; D m=?", "")
	holdTable(t, "A m()? n()?; B m()? n(?)?; C n(?)?", "BC")
	holdTable(t, "A m()? n()?; B m()? n=?; C n=?", "BC")
	holdTable(t, "A n=? m()?; B m=? n()?; C n=?; D m()?", "AC AD")
	for n := range api.MaxParams + 1 {
		for k := range api.MaxParams + 1 {
			text := "A m(" + strings.Join(slices.Repeat([]string{"int"}, n), ",") + ")int; B m(" + strings.Join(slices.Repeat([]string{"?"}, k), ",") + ")?"
			holdPair(t, classes(text), "A", "B", n == k, false)
		}
	}
}

// TestFieldsAndMethods holds classes with both, of which one thing fails.
func TestFieldsAndMethods(t *testing.T) {
	holdTable(t, "A x=int m(int)int; B x=? m(?)?; C x=str m(int)int; D x=int m(str)int; E x=int m(int)str; F x=int m(int)int y=int; G x=? m(int)int",
		"AB AG CB CG DB EB FA FB FG GB")
	holdTable(t, "A x=int m()int; B x=int; C m()int; D x=? m()?", "AB AC AD")
}

// TestNoMembers holds that everything that is a class is as precise as one without members, which is as precise as no other ones than such.
func TestNoMembers(t *testing.T) {
	holdTable(t, "A; B; C", "AB AC BA BC CA CB")
	holdTable(t, "A; B x=int; C m()int; D x=?; E m(?)?", "BA CA DA EA BD")
	holdTable(t, "A; B:A; C:B x=A; D x=B", "AB BA CA CB DA DB CD DC")
	holdTable(t, "A", "")
}

// TestSuperclasses holds that members count that a class has from its superclasses, and that a class is as precise as each of these.
func TestSuperclasses(t *testing.T) {
	holdTable(t, "A x=int; B:A; C:B y=str; D:A z=real", "AB BA CA CB DA DB")
	holdTable(t, "A x=int; B:A m(int)str; C:B; X m(int)str x=int; Y m(int)str", "BA CA CB BC XA XB XC BX CX XY BY CY")
	holdTable(t, "A x=int; B:A y=int; X x=str y=int; Y x=? y=int; Z y=?", "BA XY BY BZ XZ YZ")
	// A method that is declared again is the same one.
	holdTable(t, "A m(int)str; B:A m(int)str; C:B; X m(int)?; Y m(?)str; Z m(?)?", "AB AC BA BC CA CB AX AY AZ BX BY BZ CX CY CZ XZ YZ")
	// The superclass says something of the class itself.
	holdTable(t, "A me=A; B:A you=B; X me=X; Y me=Y you=Y", "BA AX XA BX YA YX YB")
	holdTable(t, "A me()A; B:A you(B)B; X me()X; Y me()Y you(Y)Y", "BA AX XA BX YA YX YB")
	// A class whose superclass stands behind it.
	holdTable(t, "C:B z=int; B:A y=int; A x=int; X x=? y=? z=?; Y x=int", "CB CA BA CX CY BY AY YA")
}

// TestCycles holds classes that refer to themselves or to one another: what nothing contradicts holds.
func TestCycles(t *testing.T) {
	holdTable(t, "A next=A; B next=B", "AB BA")
	holdTable(t, "A m(A)A; B m(B)B", "AB BA")
	holdTable(t, "A m(A)int; B m(B)str", "")
	holdTable(t, "A m(A)int; B m(B)?", "AB")
	holdTable(t, "A m(A)?; B m(?)B", "")
	holdTable(t, "A next=B; B next=A", "AB BA")
	holdTable(t, "A next=B; B next=A; C next=C", "AB BA AC CA BC CB")
	holdTable(t, "A next=B x=int; B next=A x=str; C next=C x=int", "")
	holdTable(t, "A next=B x=int; B next=A x=?; C next=C x=int", "CA CB")
	holdTable(t, "A next=B; B next=A x=int", "")
	holdTable(t, "A next=B x=int; B next=?", "AB")
	// Of two cycles of two and of three classes all are the same, but for one that stands in the way of all.
	holdTable(t, "A n=B; B n=A; C n=D; D n=E; E n=C", "AB AC AD AE BA BC BD BE CA CB CD CE DA DB DC DE EA EB EC ED")
	holdTable(t, "A n=B x=?; B n=A x=?; C n=D x=?; D n=E x=int; E n=C x=str", "AB BA CA CB DA DB EA EB")
	// A parameter of a parameter is as precise in the same direction, too.
	holdTable(t, "S v=int; L v=int w=int; A m(S)int; B m(L)int; C n(A)int; D n(B)int", "LS BA DC")
	holdTable(t, "A m(A)S; B m(B)L; S v=int; L v=int w=int", "LS BA")
	holdTable(t, "A m(?)S; B m(B)L; S v=int; L v=int w=int", "LS BA")
}

// TestDeletedLater holds pairs of which nothing speaks against but other pairs, which are deleted before.
func TestDeletedLater(t *testing.T) {
	holdTable(t, "A n=B; B x=int; C n=D; D x=str", "")
	holdTable(t, "A n=B; B x=int; C n=D; D x=?", "AC BD")
	holdTable(t, "A n=B; B n=C; C n=D; D x=int; E n=F; F n=G; G n=H; H x=str", "")
	holdTable(t, "A n=B; B n=C; C n=D; D x=int; E n=F; F n=G; G n=H; H x=?", "AE BF CG DH")
	holdTable(t, "A n=B; B n=?; C n=D; D n=?; E n=F; F n=int", "AB AC AD BD CA CB CD DB EA EB EC ED FB FD")
	holdTable(t, "A n()B; B n()C; C x=int y=int; D n()E; E n()F; F x=int", "AD BE CF")
	holdTable(t, "A n(B)?; B n(C)?; C x=int y=int; D n(E)?; E n(F)?; F x=int", "AD BE CF")
	// What is deleted stands behind, and before, what relies on it; and each of two things may be what is in the way.
	for _, names := range []string{"ABCDEF", "FEDCBA", "BDFACE", "CAEBFD"} {
		text := strings.NewReplacer("1", names[:1], "2", names[1:2], "3", names[2:3], "4", names[3:4], "5", names[4:5], "6", names[5:])
		holdTable(t, text.Replace("1 n=2; 2 n=3; 3 x=int; 4 n=5; 5 n=6; 6 x=str"), "")
		holdTable(t, text.Replace("1 n=2; 2 n=3; 3 x=int; 4 n=5; 5 n=6; 6 x=?"), text.Replace("14 25 36"))
		holdTable(t, text.Replace("1 n=2 o=3; 2 n=2; 3 x=int; 4 n=5 o=6; 5 n=5; 6 x=?"), text.Replace("14 12 15 42 45 25 52 36"))
		holdTable(t, text.Replace("1 n=2 o=3; 2 n=2; 3 x=int; 4 n=5 o=6; 5 n=5; 6 x=str"), text.Replace("12 15 42 45 25 52"))
	}
}

// Rings and rows of as many classes as a table may have

// ring returns n classes, each with a field that has the next one, the last one the first; x of the last one has another type.
func ring(name string, n int, last string) string {
	text := ""
	for i := range n {
		typ := "?"
		if i == n-1 {
			typ = last
		}
		text += name + strconv.Itoa(i) + " n=" + name + strconv.Itoa((i+1)%n) + " x=" + typ + "; "
	}
	return text
}

// row returns n classes, each with a field that has the next one; the last one has a field that differs.
func row(name string, n int, last string) string {
	return strings.Replace(ring(name, n, last), "n="+name+"0", "n=?", 1)
}

// numbered is a class of a name with a number behind it.
type numbered struct {
	name string
	n    int
}

// holdWhole holds all calls of all pairs of classes of a table of letters with numbers, or of a third of many, in two orders.
func holdWhole(t *testing.T, text string, precise func(s, u numbered) bool) {
	t.Helper()
	for _, l := range [][]api.Class{classes(text), backward(classes(text))} {
		holdValid(t, l)
		for i, s := range namesOf(l) {
			for k, u := range namesOf(l)[:i+1] {
				if len(l) > 20 && (i+k)%3 > 0 {
					continue
				}
				n, _ := strconv.Atoi(s[1:])
				m, _ := strconv.Atoi(u[1:])
				holdPair(t, l, s, u, precise(numbered{s[:1], n}, numbered{u[:1], m}), precise(numbered{u[:1], m}, numbered{s[:1], n}))
			}
		}
	}
}

// TestRings holds two rings of one length, of two that have no common divisor, and of one that divides the other one.
func TestRings(t *testing.T) {
	for _, n := range []int{1, 6, 20} {
		holdWhole(t, ring("A", n, "int")+ring("B", n, "int"), func(s, u numbered) bool { return s.n == u.n })
		holdWhole(t, ring("A", n, "int")+ring("B", n, "?"), func(s, u numbered) bool { return u.name == "B" || s == u })
		holdWhole(t, ring("A", n, "int")+ring("B", n, "str"), func(s, u numbered) bool { return s == u })
	}
	holdWhole(t, ring("A", 5, "int")+ring("B", 6, "int"), func(s, u numbered) bool { return s == u })
	holdWhole(t, ring("A", 5, "int")+ring("B", 6, "?"), func(s, u numbered) bool { return u.name == "B" || s == u })
	holdWhole(t, ring("A", 3, "int")+ring("B", 6, "int"), func(s, u numbered) bool {
		return s == u || s.name == "A" && u.name == "B" && s.n == u.n%3
	})
}

// TestRows holds that the ends of two rows tell apart all that is not as far from them, one after the other.
func TestRows(t *testing.T) {
	for _, n := range []int{1, 2, 7, 20} {
		holdWhole(t, row("A", n, "int")+row("B", n, "int"), func(s, u numbered) bool { return s.n == u.n })
		holdWhole(t, row("A", n, "int")+row("B", n, "str"), func(s, u numbered) bool { return s == u })
		holdWhole(t, row("A", n, "int")+row("B", n, "?"), func(s, u numbered) bool {
			return s == u || u.name == "B" && s.n <= u.n
		})
	}
}

// counter returns a table in which the first pair of classes leads to 400 others, each of which leads only to the next one and back; the last one needs last to be as precise as int.
// Beside, each class has as many members as it may, which lead back to any pairs before.
func counter(last string, nameOf func(int) string) []api.Class {
	l := full(func(class, member int) string {
		if class < 20 {
			return nameOf(min(class, member))
		}
		return nameOf(20 + min(class-20, 19-member))
	})
	for i := range 20 {
		high, low := l[i].Fields, l[20+i].Fields
		high[0].Type, low[0].Type = nameOf(i), "?"
		high[1].Type, low[1].Type = nameOf(min(i+1, 19)), "?"
		high[2].Type, low[2].Type = "int", "?"
		if i < 19 {
			low[0].Type = nameOf(20 + i + 1)
			continue
		}
		low[1].Type, low[2].Type, high[2].Type = nameOf(20), "int", last
	}
	for i := range l {
		l[i].Name = nameOf(i)
	}
	return l
}

// TestCounter holds 400 pairs that are deleted one after the other, whatever the order in which they are asked.
func TestCounter(t *testing.T) {
	for _, nameOf := range []func(int) string{
		func(i int) string { return "C" + strconv.Itoa(100+i) },
		func(i int) string { return "C" + strconv.Itoa(199-i) },
		func(i int) string { return "C" + strconv.Itoa(100+i*17%40) },
	} {
		for _, last := range []string{"int", "str", "?", nameOf(0)} {
			l := counter(last, nameOf)
			holdValid(t, l)
			holdPair(t, l, nameOf(0), nameOf(20), last == "int", false)
			for _, x := range [][2]int{{0, 39}, {7, 33}, {19, 20}, {19, 39}} {
				for _, l := range [][]api.Class{l, backward(l)} {
					if got := precise.Precise(l, nameOf(x[0]), nameOf(x[1])); got != (last == "int") {
						t.Errorf("%v, the last one %s: Precise %t", x, last, got)
					}
				}
			}
		}
	}
}

// full returns a table of 40 classes, each with 20 fields and 20 methods of eight parameters, all of the type that typ says.
func full(typ func(class, member int) string) []api.Class {
	var l []api.Class
	for i := range api.MaxClasses {
		c := api.Class{Name: "C" + strconv.Itoa(i)}
		for k := range api.MaxMembers {
			of := typ(i, k)
			c.Fields = append(c.Fields, api.Var{Name: "f" + strconv.Itoa(k), Type: of})
			m := api.Sig{Name: "m" + strconv.Itoa(k), Result: of}
			for p := range api.MaxParams {
				m.Params = append(m.Params, api.Var{Name: "p" + strconv.Itoa(p), Type: of})
			}
			c.Methods = append(c.Methods, m)
		}
		l = append(l, c)
	}
	return l
}

// TestFull holds the largest table, of classes that lead to all that are as far from one another, and differ in their last members only.
func TestFull(t *testing.T) {
	l := full(func(class, member int) string {
		if member < api.MaxMembers-1 {
			return "C" + strconv.Itoa((class+member)%api.MaxClasses)
		}
		return []string{"int", "?"}[class%2]
	})
	holdValid(t, l)
	for i := 0; i < api.MaxClasses; i += 3 {
		holdPair(t, l, "C4", l[i].Name, i%2 == 0, i%2 == 0)
		holdPair(t, l, l[i].Name, "C7", i%2 == 1, i%2 == 1)
	}
	l[7].Methods[19].Params[7].Type = "int"
	// All that are not one are told apart: the one that leads to the eighth class leads to it from another one.
	holdNothing(t, l, "C7", "C5")
	holdNothing(t, l, "C0", "C2")
	holdPair(t, l, "C0", "C0", true, true)
	l[7].Methods[19].Params = l[7].Methods[19].Params[:7]
	holdNothing(t, l, "C7", "C5")
	holdNothing(t, l, "C0", "C2")
}

// TestFullDirections holds largest tables whose last members tell in which direction a class is more precise.
func TestFullDirections(t *testing.T) {
	own := func(class, member int) string { return "C" + strconv.Itoa(class) }
	for place := range api.MaxParams + 2 {
		l := full(own)
		for i := 20; i < api.MaxClasses; i++ {
			last := &l[i].Methods[api.MaxMembers-1]
			switch {
			case place < api.MaxParams:
				last.Params[place].Type = "?"
			case place == api.MaxParams:
				last.Result = "?"
			default:
				l[i].Fields[api.MaxMembers-1].Type = "?"
			}
		}
		holdValid(t, l)
		for _, i := range []int{0, 19, 20, 39} {
			holdPair(t, l, "C18", l[i].Name, true, i < 20)
			holdPair(t, l, "C21", l[i].Name, i >= 20, true)
		}
	}
}

// TestLine holds 40 classes on one line, each with members of its own: a class is more precise than those above it.
func TestLine(t *testing.T) {
	text := "C0 f0=C39 m0(C0)C39; "
	for i := 1; i < api.MaxClasses; i++ {
		at := strconv.Itoa(i)
		text += "C" + at + ":C" + strconv.Itoa(i-1) + " f" + at + "=? m" + at + "(C" + at + ")C0; "
	}
	for _, l := range [][]api.Class{classes(text), backward(classes(text))} {
		holdValid(t, l)
		for i := 0; i < api.MaxClasses; i += 3 {
			for _, k := range []int{0, i / 2, i, min(i+1, api.MaxClasses-1), api.MaxClasses - 1} {
				holdPair(t, l, "C"+strconv.Itoa(i), "C"+strconv.Itoa(k), i >= k, k >= i)
			}
		}
	}
}

// TestTwoLines holds two lines of 20 full classes, with the same names of members: what a class is to those of its own line, it is to the other line's, but for one type.
func TestTwoLines(t *testing.T) {
	lines := func(odd string) []api.Class {
		l := full(func(class, member int) string {
			return "C" + strconv.Itoa(class/20*20+member)
		})
		for i := range l {
			for k := range api.MaxMembers {
				l[i].Fields[k].Name += "x" + strconv.Itoa(i%20)
				l[i].Methods[k].Name += "x" + strconv.Itoa(i%20)
			}
			if i%20 > 0 {
				l[i].Super = "C" + strconv.Itoa(i-1)
			}
		}
		l[0].Methods[19].Params[7].Type, l[20].Methods[19].Params[7].Type = "int", odd
		return l
	}
	for _, odd := range []string{"int", "str", "?"} {
		l := lines(odd)
		holdValid(t, l)
		for _, x := range [][2]int{{19, 39}, {6, 20}, {19, 38}} {
			s, u := "C"+strconv.Itoa(x[0]), "C"+strconv.Itoa(x[1])
			holdPair(t, l, s, u, odd != "str", odd == "int" && x[0] == x[1]-20)
		}
		holdPair(t, l, "C30", "C5", odd == "int", false)
		holdPair(t, l, "C10", "C4", true, false)
	}
}

// Wrong inputs

// TestNoTypes holds that a text that is no type of the table is not even as precise as itself, or as ?.
func TestNoTypes(t *testing.T) {
	for _, text := range []string{"", four, "A; B:A", "Int; Str:Int"} {
		l := classes(text)
		holdValid(t, l)
		for _, s := range noTypes() {
			if slices.Contains(namesOf(l), s) {
				continue
			}
			holdNothing(t, l, s, s)
			for _, u := range typesOf(l) {
				holdNothing(t, l, s, u)
			}
		}
		for _, s := range []string{"", "Zz", "a"} {
			for _, u := range []string{"", "Zz", "a", "Yy", " "} {
				holdNothing(t, l, s, u)
			}
		}
	}
}

// TestEmptyTable holds that an empty table has no classes, but base types and ?.
func TestEmptyTable(t *testing.T) {
	for _, l := range [][]api.Class{nil, {}, classes(four)[:0]} {
		holdOthers(t, l)
		for _, s := range []string{"A", "B", "C", ""} {
			holdNothing(t, l, s, s)
			holdNothing(t, l, s, "?")
			holdNothing(t, l, s, "int")
		}
	}
}

// many returns n times a text, with %'s instead of which there is a number.
func many(n int, text string) string {
	all := ""
	for i := range n {
		all += strings.ReplaceAll(text, "%", strconv.Itoa(i))
	}
	return all
}

// faulty is a table with a fault, as a text.
type faulty struct {
	err  api.Errno
	text string
}

// faults returns a table or more for each sort of a fault.
func faults() []faulty {
	return []faulty{
		{api.ErrMany, many(41, "C%; ")},
		{api.ErrMany, "Z " + many(21, "x%=int ")},
		{api.ErrMany, "Z " + many(21, "m%()int ")},
		{api.ErrMany, "Z m(int" + many(8, ",int") + ")int"},
		{api.ErrForm, "z"},
		{api.ErrForm, ":Z; Z"},
		{api.ErrForm, ":"},
		{api.ErrForm, "int"},
		{api.ErrForm, "?"},
		{api.ErrForm, strings.Repeat("Z", 21)},
		{api.ErrForm, "Z X=int"},
		{api.ErrForm, "Z if=int"},
		{api.ErrForm, "Z =int"},
		{api.ErrForm, "Z x="},
		{api.ErrForm, "Z x=a"},
		{api.ErrForm, "Z M()int"},
		{api.ErrForm, "Z m()"},
		{api.ErrForm, "Z m()??"},
		{api.ErrForm, "Z m(A=int)int"},
		{api.ErrForm, "Z m(a=a)int"},
		{api.ErrName, "Z:Y"},
		{api.ErrName, "Z:int"},
		{api.ErrName, "Z x=Y"},
		{api.ErrName, "Z m()Y"},
		{api.ErrName, "Z m(Y)int"},
		{api.ErrDouble, "Z; Z"},
		{api.ErrDouble, "Z x=int x=int"},
		{api.ErrDouble, "Z m()int m()int"},
		{api.ErrDouble, "Z m=int m()int"},
		{api.ErrDouble, "Z m(a=int,a=int)int"},
		{api.ErrDouble, "Y x=int; Z:Y x=int"},
		{api.ErrDouble, "Y x=int; Z:Y x()int"},
		{api.ErrDouble, "Y x()int; Z:Y x=int"},
		{api.ErrCycle, "Z:Z"},
		{api.ErrCycle, "Y:Z; Z:Y"},
		{api.ErrCycle, "X:Z; Y:X; Z:Y"},
		{api.ErrOverride, "Y m()int; Z:Y m()?"},
		{api.ErrOverride, "Y m(int)int; Z:Y m(?)int"},
		{api.ErrOverride, "Y m(int)int; Z:Y m()int"},
		{api.ErrOverride, "Y m()int; Z:Y m(int)int"},
		{api.ErrOverride, "X m()int; Y:X; Z:Y m()str"},
		{api.ErrOverride, "Y m(int,str)int; X:Y; Z:X m(str,int)int"},
	}
}

// TestFaultyTables holds that a table with a fault has no types: not even a base type is as precise as itself, or as ?.
func TestFaultyTables(t *testing.T) {
	for _, x := range faults() {
		for _, l := range [][]api.Class{classes(x.text), classes(four + ";" + x.text), classes(x.text + ";" + four)} {
			if f := table.Check(l); f.Err != x.err {
				t.Fatalf("%q: the fault %v", x.text, f)
			}
			for _, s := range append(typesOf(l), "", "V", "a") {
				for _, u := range []string{s, "?", "int", "A", "B", l[0].Name, l[len(l)-1].Name} {
					holdNothing(t, l, s, u)
				}
			}
		}
		if t.Failed() {
			t.Fatalf("the table %q", x.text)
		}
	}
}

// TestNoFault holds that what the tables with a fault are made of is valid: the faults alone are to blame.
func TestNoFault(t *testing.T) {
	for _, text := range []string{
		many(36, "C%; "), "Z " + many(20, "x%=int "), "Z " + many(20, "m%()int "), "Z m(int" + many(7, ",int") + ")int", strings.Repeat("Z", 20), "Z x=Z m(Z)Z y=A",
		"Y:Z; Z", "Z:A", "Y x=int; Z x=int", "Y m()int; Z:Y m()int", "Y m(int,str)int; X:Y; Z:X m(c=int,b=str)int",
	} {
		l := classes(four + ";" + text)
		holdValid(t, l)
		holdPair(t, l, "B", "A", true, false)
		holdPair(t, l, "B", "C", true, true)
		holdPair(t, l, "B", "D", true, false)
		for _, s := range typesOf(l) {
			holdPair(t, l, s, s, true, true)
			holdPair(t, l, s, "?", true, s == "?")
		}
	}
}

// What is handed in

// copyOf copies a table in depth.
func copyOf(l []api.Class) []api.Class {
	l = slices.Clone(l)
	for i := range l {
		l[i].Fields = slices.Clone(l[i].Fields)
		l[i].Methods = slices.Clone(l[i].Methods)
		for k := range l[i].Methods {
			l[i].Methods[k].Params = slices.Clone(l[i].Methods[k].Params)
		}
	}
	return l
}

// TestNothingChanged holds that no call changes a table, or what lies behind it, or looks at that.
func TestNothingChanged(t *testing.T) {
	l := classes(four + "; S x=S")
	l[3].Fields = append(l[3].Fields, api.Var{Name: "spare"})[:1]
	before := copyOf(l[:cap(l)])
	spare := l[3].Fields[:2][1]
	l = l[:4]
	ask := func() (said []int) {
		for _, s := range append(typesOf(l), "S") {
			for _, u := range append(typesOf(l), "S") {
				said = append(said, precise.More(l, s, u))
				for _, is := range []bool{precise.Precise(l, s, u), precise.Same(l, s, u)} {
					if is {
						said = append(said, len(said))
					}
				}
			}
		}
		return said
	}
	first := ask()
	if !slices.Equal(first, ask()) {
		t.Error("an answer depends on an earlier one")
	}
	if !reflect.DeepEqual(l[:cap(l)], before) || l[3].Fields[:2][1] != spare {
		t.Errorf("a call changed its table: %v", l[:cap(l)])
	}
	holdNothing(t, l, "S", "?")
	clear(l[4:cap(l)])
	if !slices.Equal(first, ask()) {
		t.Error("an answer depends on what lies behind a table")
	}
}

// TestChanged holds that a table that a caller has changed is another one.
func TestChanged(t *testing.T) {
	l := classes(four)
	holdPair(t, l, "B", "D", true, false)
	l[1].Methods[0].Result = "?"
	holdPair(t, l, "B", "D", true, true)
	l[3].Methods[0].Result = "B"
	holdPair(t, l, "B", "D", false, true)
	holdPair(t, l, "B", "A", true, false)
	l[0].Fields[0].Type = "str"
	holdNothing(t, l, "B", "A")
	l[1].Fields[0].Type = "str"
	holdPair(t, l, "B", "A", true, false)
	l[0].Methods = l[1].Methods
	holdPair(t, l, "B", "A", true, true)
	l[0].Super = "A"
	holdNothing(t, l, "B", "A")
	l[0].Super = "B"
	holdNothing(t, l, "B", "A")
	l[0].Fields = nil
	holdPair(t, l, "B", "A", true, true)
	l[0].Methods = []api.Sig{{Name: "n", Result: "?"}}
	holdPair(t, l, "B", "A", false, true)
}
