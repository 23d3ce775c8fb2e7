package coerce_test

import (
	"math"
	"reflect"
	"slices"
	"strconv"
	"strings"
	"testing"

	"chaperon/api"
	"chaperon/chain"
	"chaperon/coerce"
	"chaperon/table"
)

// classes makes a table of a text: classes with ; between them, each its name, or name:superclass, its fields as name=type, its methods as name(types)result.
func classes(text string) []api.Class {
	var l []api.Class
	for _, part := range strings.Split(text, ";") {
		words := strings.Fields(part)
		if len(words) == 0 {
			continue
		}
		c := api.Class{}
		c.Name, c.Super, _ = strings.Cut(words[0], ":")
		for _, w := range words[1:] {
			name, rest, is := strings.Cut(w, "(")
			if !is {
				name, typ, _ := strings.Cut(w, "=")
				c.Fields = append(c.Fields, api.Var{Name: name, Type: typ})
				continue
			}
			types, result, _ := strings.Cut(rest, ")")
			c.Methods = append(c.Methods, api.Sig{Name: name, Params: parameters(types), Result: result})
		}
		l = append(l, c)
	}
	return l
}

// parameters makes parameters of types with commas between them.
func parameters(types string) []api.Var {
	var l []api.Var
	if types == "" {
		return nil
	}
	for i, s := range strings.Split(types, ",") {
		l = append(l, api.Var{Name: "p" + strconv.Itoa(i), Type: s})
	}
	return l
}

// layers makes a chain of words, each a layer's side (i or o), its class, its label.
func layers(words ...string) []api.Layer {
	var l []api.Layer
	for _, w := range words {
		at := 1 + strings.IndexAny(w[1:], "-0123456789")
		l = append(l, api.Layer{Out: w[0] == 'o', Class: w[1:at], Label: number(w[at:])})
	}
	return l
}

func number(s string) int {
	n, err := strconv.Atoi(s)
	if err != nil {
		panic(err)
	}
	return n
}

// value makes a value of a text: a base type, with what it is; null; a class, with layers; nothing.
func value(text string) api.Value {
	l := strings.Fields(text)
	if len(l) == 0 {
		return api.Value{}
	}
	last := l[len(l)-1]
	switch l[0] {
	case "int":
		return api.Value{Tag: 1, N: number(last)}
	case "real":
		return api.Value{Tag: 2, Bits: uint64(number(last))}
	case "bool":
		return api.Value{Tag: 3, N: number(last)}
	case "str":
		return api.Value{Tag: 4, S: last}
	case "unit":
		return api.Value{Tag: 5}
	case "null":
		return api.Value{Tag: 6}
	}
	return api.Value{Tag: 7, S: l[0], Chain: layers(l[1:]...)}
}

// full is a value all of whose fields are set, those of a tag to what they were.
func full(v api.Value) api.Value {
	all := api.Value{Tag: v.Tag, N: 4711, Bits: 0x4012345678abcdef, S: "C", Chain: layers("oD9", "iD8", "oD7", "iD6", "oD5")}
	switch v.Tag {
	case 1, 3:
		all.N = v.N
	case 2:
		all.Bits = v.Bits
	case 4:
		all.S = v.S
	case 7:
		all.S, all.Chain = v.S, v.Chain
	}
	return all
}

// equal reports whether two values are the same in each field.
func equal(a, b api.Value) bool {
	return a.Tag == b.Tag && a.N == b.N && a.Bits == b.Bits && a.S == b.S && slices.Equal(a.Chain, b.Chain)
}

// call is a call but Shows: what it does to a value.
type call struct {
	what   string
	s, u   string
	label  int
	object api.Value // through which the value passes
	member string
	param  int
}

func leaving(a string, label int) call    { return call{what: "leave", s: a, label: label} }
func entering(b string, label int) call   { return call{what: "enter", u: b, label: label} }
func casting(s, u string, label int) call { return call{what: "cast", s: s, u: u, label: label} }

func inward(object api.Value, member string, param int) call {
	return call{what: "in", object: object, member: member, param: param}
}

func outward(object api.Value, member string) call {
	return call{what: "out", object: object, member: member}
}

// callOf makes a call of a text: its word, then types and label; or member, number, object; or member, object.
func callOf(text string) call {
	l := strings.Fields(text)
	switch l[0] {
	case "leave":
		return leaving(l[1], number(l[2]))
	case "enter":
		return entering(l[1], number(l[2]))
	case "cast":
		return casting(l[1], l[2], number(l[3]))
	case "in":
		return inward(value(strings.Join(l[3:], " ")), l[1], number(l[2]))
	case "out":
		return outward(value(strings.Join(l[2:], " ")), l[1])
	}
	panic(text)
}

func (c call) do(l []api.Class, v api.Value, merged bool) (api.Value, int) {
	switch c.what {
	case "leave":
		return coerce.Leave(l, v, c.s, c.label, merged), 0
	case "enter":
		return coerce.Enter(l, v, c.u, c.label, merged)
	case "cast":
		return coerce.Cast(l, v, c.s, c.u, c.label, merged)
	case "in":
		return coerce.Inward(l, c.object, c.member, c.param, v, merged)
	}
	return coerce.Outward(l, c.object, c.member, v, merged)
}

// roomy is a value with the same chain, which has room for some more layers; they are marked.
func roomy(v api.Value) api.Value {
	l := append(slices.Clone(v.Chain), layers("oSpare1", "iSpare2", "oSpare3", "iSpare4")...)
	v.Chain = l[:len(v.Chain)]
	return v
}

// room is all of a chain, beyond its end.
func room(v api.Value) []api.Layer {
	return v.Chain[:cap(v.Chain)]
}

// copied is a copy of a table.
func copied(l []api.Class) []api.Class {
	l = slices.Clone(l)
	for i := range l {
		c := &l[i]
		c.Fields, c.Methods = slices.Clone(c.Fields), slices.Clone(c.Methods)
		for k := range c.Methods {
			c.Methods[k].Params = slices.Clone(c.Methods[k].Params)
		}
	}
	return l
}

// guarded does a call, and holds that it changes no argument, neither itself nor by what is done to its result.
func guarded(t *testing.T, c call, l []api.Class, v api.Value, merged bool) (api.Value, int) {
	t.Helper()
	c.object, v = roomy(c.object), roomy(v)
	rooms, lists := [][]api.Layer{room(c.object), room(v)}, [][]api.Layer{slices.Clone(room(c.object)), slices.Clone(room(v))}
	same := copied(l)
	got, label := c.do(l, v, merged)
	mine := got
	mine.Chain = slices.Clone(got.Chain)
	clear(room(got))
	if !reflect.DeepEqual(rooms, lists) || !reflect.DeepEqual(l, same) {
		t.Errorf("%+v to %+v: an argument is changed", c, v)
	}
	return mine, label
}

// hold holds what a call does to a value, with whole chains, or merged ones, also with all of the value's fields set.
func hold(t *testing.T, c call, l []api.Class, v, want api.Value, label int, merged bool) {
	t.Helper()
	for _, all := range []bool{false, true} {
		if all {
			v = full(v)
		}
		if all && label == 0 {
			chain := want.Chain
			want = v
			if v.Tag == 7 {
				want.Chain = chain
			}
		}
		if got, n := guarded(t, c, l, v, merged); !equal(got, want) || n != label {
			t.Errorf("merged %t: %+v to %+v: %+v, %d, and not %+v, %d", merged, c, v, got, n, want, label)
		}
	}
}

// holdBoth holds what a call does to a value, with whole chains and with merged ones; want is what becomes of it with whole ones.
func holdBoth(t *testing.T, c call, l []api.Class, v, want api.Value, label int) {
	t.Helper()
	hold(t, c, l, v, want, label, false)
	if len(want.Chain) > len(v.Chain) {
		want.Chain = chain.Norm(want.Chain)
	}
	hold(t, c, l, v, want, label, true)
}

// holdLines holds calls by a text, line by line: the value, the call, what becomes of it, with : between them; behind blames stands a label.
func holdLines(t *testing.T, classesText, text string) {
	t.Helper()
	l := classes(classesText)
	for line := range strings.Lines(strings.TrimSpace(text)) {
		parts := strings.Split(line, ":")
		v, result := value(parts[0]), strings.TrimSpace(parts[2])
		if rest, is := strings.CutPrefix(result, "blames "); is {
			holdBoth(t, callOf(parts[1]), l, v, value(""), number(rest))
		} else {
			holdBoth(t, callOf(parts[1]), l, v, value(result), 0)
		}
		if t.Failed() {
			t.Fatal(line)
		}
	}
}

// holdShows holds what a value shows: members, each its name and arity.
func holdShows(t *testing.T, l []api.Class, v api.Value, text string) {
	t.Helper()
	var want []api.Member
	words := strings.Fields(text)
	for i := 0; i < len(words); i += 2 {
		want = append(want, api.Member{Name: words[i], Arity: number(words[i+1])})
	}
	v = roomy(v)
	same, there, chained := copied(l), room(v), slices.Clone(room(v))
	got := coerce.Shows(l, v)
	if !slices.Equal(got, want) {
		t.Errorf("%+v shows %v, and not %v", v, got, want)
	}
	clear(got[:cap(got)])
	if !reflect.DeepEqual(l, same) || !slices.Equal(there, chained) {
		t.Errorf("%+v: an argument is changed", v)
	}
}

// three is the chapter's table.
const three = "C m(D)D; D x=int; E x=int y=str"

// Examples

func TestExamples(t *testing.T) {
	l := classes(three)
	holdShows(t, l, value("E"), "x -1 y -1")
	holdShows(t, l, value("E iD1"), "x -1")
	holdShows(t, l, value("int 3"), "")
	holdLines(t, three, `
		int 3 : cast int ? 1 : int 3
		int 3 : cast ? str 1 : blames 1
		E : cast E D 2 : E iE-2 oD2
		null : cast ? D 3 : null
		E iD1 : enter E 5 : blames 5
		D : enter E 5 : blames 5
		int 3 : enter D -4 : blames -4
		int 3 : leave D 1 : int 3
		E : out m C iC-1 oC1 : E iD-1 oD1
		int 3 : in m 0 C iC-1 oC1 : blames -1
		int 3 : in m 1 C iC-1 oC1 : int 3
	`)
}

// P16.1

// TestShows holds what objects show: what all of their classes have, in the order of their own one.
func TestShows(t *testing.T) {
	l := classes("A b=int a=str m()int n(int)A; B:A c=A o(A,A)?; N; X a=? b=A; Y m(int)int n(str)?; Z m=int n()int a=int; W:X m()?")
	for _, row := range [][2]string{
		{"A", "b -1 a -1 m 0 n 1"},
		{"B", "b -1 a -1 c -1 m 0 n 1 o 2"},
		{"N", ""},
		{"Other", ""},
		{"a", ""},
		{"A iA1", "b -1 a -1 m 0 n 1"},
		{"A oB1", "b -1 a -1 m 0 n 1"},
		{"B oA1", "b -1 a -1 m 0 n 1"},
		{"B iA1 oB2", "b -1 a -1 m 0 n 1"},
		{"A iN1", ""},
		{"A oOther1", ""},
		{"Other iA1", ""},
		{"A oX-3", "b -1 a -1"},
		{"X oA0", "a -1 b -1"},
		{"A iY1", "n 1"},
		{"Y iA1", "n 1"},
		{"A iZ1", "a -1"},
		{"Z oA1", "a -1"},
		{"Y oZ1", ""},
		{"A iX1 oY1", ""},
		{"A iX1 oZ1", "a -1"},
		{"A iA1 oA2 iA3 oB4 iB5 oB6 iA7", "b -1 a -1 m 0 n 1"},
		{"A oW1", "b -1 a -1 m 0"},
		{"A oW1 iX1", "b -1 a -1"},
		{"A iX1 oW1 oZ2 iN4", ""},
		{"W iB1", "a -1 b -1 m 0"},
	} {
		holdShows(t, l, value(row[0]), row[1])
		holdShows(t, l, full(value(row[0])), row[1])
	}
}

// TestShowsNothing holds that what is no object shows nothing, whatever its fields are.
func TestShowsNothing(t *testing.T) {
	l := classes(three)
	for _, tag := range []int{1, 2, 3, 4, 5, 6, 0, -1, -7, 8, 14, 256 + 7, math.MaxInt, math.MinInt} {
		holdShows(t, l, api.Value{Tag: tag, N: 1, S: "E"}, "")
		holdShows(t, l, full(api.Value{Tag: tag}), "")
	}
	holdShows(t, nil, value("E"), "")
	holdShows(t, nil, value("E oE1"), "")
}

// TestShowsFaulty holds what objects show in tables that are not valid: the members are those of table.Members.
func TestShowsFaulty(t *testing.T) {
	for _, row := range [][3]string{
		{"A x=int x=str m()int x()int; B x()int; C x=?; D x(int)int", "A", "x -1 x -1 m 0 x 0"},
		{"A x=int x=str m()int x()int; B x()int; C x=?; D x(int)int", "A oB1", "x 0"},
		{"A x=int x=str m()int x()int; B x()int; C x=?; D x(int)int", "A oC1", "x -1 x -1"},
		{"A x=int x=str m()int x()int; B x()int; C x=?; D x(int)int", "A oD1", ""},
		{"A x=int; A y=int; B y=int", "A", "x -1"},
		{"A x=int; A y=int; B y=int", "B oA1", ""},
		{"A:B x=int; B:A y=int", "A", "y -1 x -1"},
		{"A:B x=int; B:A y=int", "A oB1", "y -1 x -1"},
		{"A:No x=int; no y=int", "A", "x -1"},
		{"A:No x=int; no x=int", "A ono1", "x -1"},
		{"a x=int; ? x=int y=?", "a", "x -1"},
		{"a x=int; ? x=int y=?", "? oa1", "x -1"},
	} {
		holdShows(t, classes(row[0]), value(row[1]), row[2])
	}
}

// values returns values of all tags but objects, and of tags that there are not.
func values() []api.Value {
	l := []api.Value{value("int 3"), value("int 0"), value("real 7"), value("bool 1"), value("bool 0"), value("str C"), value("str ab"), value("unit"), value("null")}
	for _, tag := range []int{0, -1, -7, 8, 9, 14, 256 + 7, math.MaxInt, math.MinInt} {
		l = append(l, api.Value{Tag: tag})
	}
	return l
}

// objects returns objects of the chapter's table, and of classes that there are not.
func objects() []api.Value {
	l := []api.Value{{Tag: 7}}
	for _, s := range []string{"C", "D", "E", "Other", "a", "C oC1", "D iE1", "E oD1 iE2", "E iD-1 oD1 iD-2 oD2 iD-3 oD3", "Other oC5 iD6", "E oOther7"} {
		l = append(l, value(s))
	}
	return l
}

// noClasses returns types that are no class names, and what is no type.
func noClasses() []string {
	return append([]string{"int", "real", "bool", "str", "unit", "?"}, noTypes()...)
}

// noTypes returns texts that are no types.
func noTypes() []string {
	return []string{"", " ", "c", "d", "x", "m", "this", "null", "none", "int ", "Int?", "??", " ?", "C ", " C", "1C", "C_", "É", "C\x00", "\xff", "C" + strings.Repeat("c", 20), strings.Repeat("C", 1000)}
}

// wrapped is a value with more layers.
func wrapped(v api.Value, l ...api.Layer) api.Value {
	v.Chain = slices.Concat(v.Chain, l)
	return v
}

// labels returns labels, some of them as large as can be.
func labels() []int {
	return []int{1, -1, 2, -7, 5000, math.MaxInt, math.MinInt}
}

// TestLeaves holds that an object that leaves as a class gets a layer, whatever the class is, and that all else stays.
func TestLeaves(t *testing.T) {
	l := classes(three)
	for _, label := range append(labels(), 0) {
		for _, class := range []string{"C", "D", "E", "Other", "X1", "Cc", "C" + strings.Repeat("c", 19)} {
			for _, v := range objects() {
				holdBoth(t, leaving(class, label), l, v, wrapped(v, api.Layer{Class: class, Label: label}), 0)
			}
			for _, v := range values() {
				holdBoth(t, leaving(class, label), l, v, v, 0)
			}
		}
		for _, s := range noClasses() {
			for _, v := range slices.Concat(objects(), values()) {
				holdBoth(t, leaving(s, label), l, v, v, 0)
			}
		}
	}
}

// TestEntersAny holds that everything enters ?, and stays as it is.
func TestEntersAny(t *testing.T) {
	for _, label := range append(labels(), 0) {
		for _, v := range slices.Concat(objects(), values()) {
			holdBoth(t, entering("?", label), classes(three), v, v, 0)
			holdBoth(t, entering("?", label), nil, v, v, 0)
		}
	}
}

// TestEntersBases holds that a value enters a base type if it has its tag.
func TestEntersBases(t *testing.T) {
	for i, s := range []string{"int", "real", "bool", "str", "unit"} {
		for _, label := range labels() {
			for _, v := range slices.Concat(objects(), values()) {
				if v.Tag == i+1 {
					holdBoth(t, entering(s, label), classes(three), v, v, 0)
				} else {
					holdBoth(t, entering(s, label), classes(three), v, value(""), label)
				}
			}
		}
	}
}

// TestEntersNoType holds that nothing enters what is no type.
func TestEntersNoType(t *testing.T) {
	l := classes(three + "; c; x; d x=int")
	for _, s := range noTypes() {
		for _, label := range labels() {
			for _, v := range slices.Concat(objects(), values()) {
				holdBoth(t, entering(s, label), l, v, value(""), label)
			}
		}
	}
}

// TestEntersClasses holds that null enters a class, and of all else that is no object nothing.
func TestEntersClasses(t *testing.T) {
	for _, s := range []string{"C", "D", "E", "Other", "X1", "C" + strings.Repeat("c", 19)} {
		for _, label := range labels() {
			for _, v := range values() {
				if v.Tag == 6 {
					holdBoth(t, entering(s, label), classes(three), v, v, 0)
				} else {
					holdBoth(t, entering(s, label), classes(three), v, value(""), label)
				}
			}
		}
	}
}

// TestObjectsEnter holds which classes an object enters: those all of whose members it shows, by name and arity, whatever their types are.
func TestObjectsEnter(t *testing.T) {
	holdLines(t, "A x=int m(int)int; B:A y=?; X x=str; M m(?,?)?; N; Y x(int)int; Z m(str)A x=B; M0 m=int", `
		A : enter A 1 : A oA1
		A : enter B 2 : blames 2
		A : enter X 3 : A oX3
		A : enter M 4 : blames 4
		A : enter N -5 : A oN-5
		A : enter Y -6 : blames -6
		A : enter Z 7 : A oZ7
		A : enter M0 8 : blames 8
		B : enter A 1 : B oA1
		B : enter B 2 : B oB2
		B : enter X 3 : B oX3
		B : enter Z 4 : B oZ4
		X : enter A 1 : blames 1
		X : enter X 2 : X oX2
		X : enter Z 2 : blames 2
		N : enter N 1 : N oN1
		N : enter A 1 : blames 1
		Z : enter A 1 : Z oA1
		Z : enter B 1 : blames 1
		B iA1 : enter B 2 : blames 2
		B iA1 : enter A 2 : B iA1 oA2
		B iA1 : enter X 2 : B iA1 oX2
		B oX1 : enter A 2 : blames 2
		B oX1 : enter X 2 : B oX1 oX2
		B iX1 oM2 : enter X 3 : blames 3
		B iX1 oM2 : enter N 3 : B iX1 oM2 oN3
		B iN1 iB2 : enter X 3 : blames 3
		B iB1 oB2 iB3 : enter B 4 : B iB1 oB2 iB3 oB4
		A iB1 : enter A 2 : A iB1 oA2
		A iB1 : enter B 3 : blames 3
		A iOther1 : enter A 2 : blames 2
		A iOther1 : enter N 2 : A iOther1 oN2
		A : enter Other 2 : A oOther2
		Other : enter A 1 : blames 1
		Other : enter N 1 : Other oN1
		Other : enter Other 3 : Other oOther3
		a : enter N 3 : a oN3
		a : enter A 3 : blames 3
	`)
}

// TestObjectsEnterFaulty holds the same of tables that are not valid.
func TestObjectsEnterFaulty(t *testing.T) {
	holdLines(t, "A x=int x=str m()int x()int; B x()int; C x=?; D x(int)int; E x=int x=int; F x=no; G:No x=int", `
		A : enter B 1 : A oB1
		A : enter C 1 : A oC1
		A : enter D 1 : blames 1
		A : enter E 1 : A oE1
		A : enter F 1 : A oF1
		A : enter G 1 : A oG1
		A : enter A 1 : A oA1
		B : enter A 1 : blames 1
		C : enter A 1 : blames 1
		C : enter E 1 : C oE1
		E : enter C 1 : E oC1
		E : enter E 1 : E oE1
		E : enter B 1 : blames 1
		A oE1 : enter E 2 : A oE1 oE2
		A oE1 : enter C 2 : A oE1 oC2
		A oE1 : enter A 2 : blames 2
		A oA1 : enter A 2 : A oA1 oA2
	`)
	holdLines(t, "A x=int; A y=int; B y=int; P:Q x=int; Q:P y=int", `
		A : enter B 1 : blames 1
		B : enter A 1 : blames 1
		P : enter Q 1 : P oQ1
		Q : enter P 1 : Q oP1
		P : enter A 1 : P oA1
		P : enter B 1 : P oB1
	`)
}

// TestMerged holds that a chain is shortened if a layer is appended, and only then.
func TestMerged(t *testing.T) {
	l := classes(three)
	long := value("E oD1 oD2 oD3 iD4 oD5")
	for _, c := range []call{leaving("int", 1), leaving("?", 1), leaving("", 1), entering("?", 1), casting("?", "?", 1), casting("str", "?", 1), inward(value("D oD1"), "y", 0), outward(value("D oD1"), "y"), outward(value("D"), "x")} {
		hold(t, c, l, long, long, 0, false)
		hold(t, c, l, long, long, 0, true)
	}
	for _, row := range []struct {
		c             call
		whole, merged string
	}{
		{leaving("D", 6), "E oD1 oD2 oD3 iD4 oD5 iD6", "E oD1 iD4 oD5 iD6"},
		{leaving("C", 6), "E oD1 oD2 oD3 iD4 oD5 iC6", "E oD1 oD3 iD4 oD5 iC6"},
		{entering("D", 6), "E oD1 oD2 oD3 iD4 oD5 oD6", "E oD1 oD3 iD4 oD5 oD6"},
		{casting("?", "D", 6), "E oD1 oD2 oD3 iD4 oD5 oD6", "E oD1 oD3 iD4 oD5 oD6"},
		{casting("D", "?", 6), "E oD1 oD2 oD3 iD4 oD5 iD-6", "E oD1 iD4 oD5 iD-6"},
		{casting("D", "D", 6), "E oD1 oD2 oD3 iD4 oD5 iD-6 oD6", "E oD1 iD4 oD5 iD-6 oD6"},
	} {
		hold(t, row.c, l, long, value(row.whole), 0, false)
		hold(t, row.c, l, long, value(row.merged), 0, true)
	}
}

// TestLabelZero holds that there is no value where 0 is blamed.
func TestLabelZero(t *testing.T) {
	l := classes(three + "; F x=str; G m(str)str")
	for _, merged := range []bool{false, true} {
		for _, c := range []call{entering("str", 0), entering("C", 0), entering("c", 0), casting("D", "str", 0), inward(value("D iF0 iD0"), "x", 0), outward(value("D oF0"), "x"), outward(value("D oG0"), "m"), inward(value("D iC1 iG0"), "m", 0)} {
			for _, v := range []api.Value{value("int 3"), value("E oD1")} {
				if got, _ := c.do(l, v, merged); !equal(got, value("")) {
					t.Errorf("%+v to %+v: %+v", c, v, got)
				}
			}
		}
	}
}

// P16.2

// TestCasts holds that what is cast leaves with the negative label, and enters with the label.
func TestCasts(t *testing.T) {
	holdLines(t, three, `
		E : cast E D 1 : E iE-1 oD1
		E : cast E D -1 : E iE1 oD-1
		E : cast E ? 4 : E iE-4
		E : cast ? E 4 : E oE4
		E : cast ? ? 4 : E
		E : cast int ? 4 : E
		E : cast int E 4 : E oE4
		E : cast no E 4 : E oE4
		E : cast no ? 4 : E
		E : cast D E 4 : blames 4
		E : cast C E -4 : blames -4
		E : cast E C 5 : blames 5
		E : cast D D 5 : E iD-5 oD5
		E : cast D ? 5 : E iD-5
		E : cast D int 5 : blames 5
		E : cast ? int -5 : blames -5
		E : cast E no -5 : blames -5
		E : cast Other ? 5 : E iOther-5
		E : cast Other D 5 : blames 5
		E : cast Other Other 5 : E iOther-5 oOther5
		E : cast E Other 5 : E iE-5 oOther5
		E oE1 : cast E D 2 : E oE1 iE-2 oD2
		E oD1 : cast E D 2 : E oD1 iE-2 oD2
		E oD1 : cast D E 2 : blames 2
		E iD1 : cast ? E 2 : blames 2
		int 3 : cast int ? 1 : int 3
		int 3 : cast ? int 1 : int 3
		int 3 : cast int int 1 : int 3
		int 3 : cast str int 1 : int 3
		int 3 : cast int str 1 : blames 1
		int 3 : cast E int 1 : int 3
		int 3 : cast int E 1 : blames 1
		int 3 : cast ? no 1 : blames 1
		str ab : cast ? str 1 : str ab
		real 5 : cast ? real 1 : real 5
		real 5 : cast ? int 1 : blames 1
		bool 1 : cast ? bool 1 : bool 1
		bool 1 : cast ? int -3 : blames -3
		unit : cast ? unit 1 : unit
		unit : cast unit D 2 : blames 2
		null : cast C D 3 : null
		null : cast C ? 3 : null
		null : cast ? unit 3 : blames 3
		null : cast int no 3 : blames 3
		null : cast ? Other 3 : null
	`)
	for _, n := range labels() {
		v := value("E")
		holdBoth(t, casting("E", "D", n), classes(three), v, wrapped(v, api.Layer{Class: "E", Label: -n}, api.Layer{Out: true, Class: "D", Label: n}), 0)
		holdBoth(t, casting("D", "E", n), classes(three), v, value(""), n)
	}
}

// many is a table of classes that have members of one name each, with several types.
const many = "D; I x=int m(int)int n()str; S x=str m(str)str n()int; Q x=? m(?)? n()?; K x=D m(D)D n()D; L x=E m(E)E n()E; E y=int; N; F m=int x(int)str; T m(int,str,?,D)unit; J:I; V x=no m(no)no"

// TestFields holds what goes in to fields, and what comes out, with one layer: the side decides which of it enters and which leaves; any number will do.
func TestFields(t *testing.T) {
	l := classes(many)
	for _, param := range []int{0, 1, -1, 7, 8, 99, math.MaxInt, math.MinInt} {
		for _, row := range []struct {
			v, layer, result string
			label            int
		}{
			{"int 3", "iI5", "int 3", 0},
			{"int 3", "iS5", "", 5},
			{"int 3", "iS-5", "", -5},
			{"int 3", "iQ5", "int 3", 0},
			{"int 3", "iK5", "", 5},
			{"int 3", "iN5", "int 3", 0},
			{"int 3", "iD5", "int 3", 0},
			{"int 3", "iJ5", "int 3", 0},
			{"str a", "iJ5", "", 5},
			{"int 3", "iV5", "", 5},
			{"int 3", "iOther5", "int 3", 0},
			{"null", "iK5", "null", 0},
			{"null", "iI5", "", 5},
			{"E", "iK5", "E oD5", 0},
			{"E", "iL-5", "E oE-5", 0},
			{"D", "iL6", "", 6},
			{"E oD3", "iL6", "", 6},
			{"E oD3", "iK6", "E oD3 oD6", 0},
			{"E", "iQ6", "E", 0},
			{"E", "iI6", "", 6},
		} {
			out := "o" + row.layer[1:]
			holdBoth(t, inward(value("D "+row.layer), "x", param), l, value(row.v), value(row.result), row.label)
			holdBoth(t, outward(value("D "+out), "x"), l, value(row.v), value(row.result), row.label)
		}
		for _, row := range [][3]string{
			{"int 3", "oI5", "int 3"},
			{"int 3", "oS5", "int 3"},
			{"int 3", "oK5", "int 3"},
			{"int 3", "oV5", "int 3"},
			{"null", "oI5", "null"},
			{"E", "oI5", "E"},
			{"E", "oQ5", "E"},
			{"E", "oN5", "E"},
			{"E", "oV5", "E"},
			{"E", "oOther5", "E"},
			{"E", "oK5", "E iD5"},
			{"E", "oL-5", "E iE-5"},
			{"D", "oL5", "D iE5"},
		} {
			in := "i" + row[1][1:]
			holdBoth(t, inward(value("D "+row[1]), "x", param), l, value(row[0]), value(row[2]), 0)
			holdBoth(t, outward(value("D "+in), "x"), l, value(row[0]), value(row[2]), 0)
		}
	}
}

// TestParameters holds what goes in to methods: to a parameter that there is; to another one it goes as it was.
func TestParameters(t *testing.T) {
	l := classes(many)
	for _, row := range []struct {
		v, layer string
		param    int
		result   string
		label    int
	}{
		{"int 3", "iT5", 0, "int 3", 0},
		{"int 3", "iT5", 1, "", 5},
		{"str a", "iT5", 1, "str a", 0},
		{"str a", "iT5", 0, "", 5},
		{"str a", "iT5", 2, "str a", 0},
		{"str a", "iT-5", 3, "", -5},
		{"E", "iT5", 3, "E oD5", 0},
		{"E", "oT5", 3, "E iD5", 0},
		{"E", "oT5", 2, "E", 0},
		{"E", "oT5", 0, "E", 0},
		{"E", "iT5", 4, "E", 0},
		{"E", "iT5", -1, "E", 0},
		{"E", "iT5", math.MaxInt, "E", 0},
		{"E", "iT5", math.MinInt, "E", 0},
		{"E", "oT5", 4, "E", 0},
		{"E", "iI5", 1, "E", 0},
		{"E", "iI5", 0, "", 5},
		{"E", "iJ5", 0, "", 5},
		{"int 3", "iJ5", 0, "int 3", 0},
		{"E", "iF5", 1, "", 5},
		{"int 3", "iF5", -1, "int 3", 0},
		{"E", "iN5", 0, "E", 0},
		{"E", "iOther5", 0, "E", 0},
	} {
		holdBoth(t, inward(value("D "+row.layer), "m", row.param), l, value(row.v), value(row.result), row.label)
	}
	holdBoth(t, inward(value("D iS5"), "n", 0), l, value("E"), value("E"), 0)
}

// TestResults holds what comes out of methods, with one layer.
func TestResults(t *testing.T) {
	holdLines(t, many, `
		int 3 : out m D oI5 : int 3
		int 3 : out m D oS5 : blames 5
		int 3 : out n D oI-5 : blames -5
		int 3 : out n D oS5 : int 3
		int 3 : out n D oQ5 : int 3
		int 3 : out m D oF5 : int 3
		str a : out m D oF5 : blames 5
		str a : out x D oF5 : str a
		int 3 : out m D oT5 : blames 5
		unit : out m D oT5 : unit
		unit : out m D iT5 : unit
		unit : out m D oJ5 : blames 5
		int 3 : out m D oJ5 : int 3
		int 3 : out m D iS5 : int 3
		int 3 : out m D oV5 : blames 5
		int 3 : out m D iV5 : int 3
		null : out m D oK5 : null
		E : out m D oK5 : E oD5
		E : out m D iK5 : E iD5
		E : out n D oL5 : E oE5
		D : out n D oL5 : blames 5
		D : out n D iL5 : D iE5
		E : out m D oI5 : blames 5
		E : out m D iI5 : E
		E : out y D oI5 : E
		E : out y D oE5 : blames 5
		E : out m D oN5 : E
		E : out m D oOther5 : E
	`)
}

// TestThrough holds the order of the layers: from the last one to the first inward, from the first one to the last outward; the label that is blamed first is told.
func TestThrough(t *testing.T) {
	holdLines(t, many, `
		E : in m 0 D iK1 iK2 : E oD2 oD1
		E : out m D oK1 oK2 : E oD1 oD2
		E : in m 0 D oK1 oL2 : E iE2 iD1
		E : out m D iK1 iL2 : E iD1 iE2
		E : in x 0 D iK-1 oK1 : E iD1 oD-1
		E : out x D iK-1 oK1 : E iD-1 oD1
		E : in x 0 D iL-1 oK1 : blames -1
		E : in x 0 D iK-1 oL1 : E iE1 oD-1
		E : out x D iK-1 oL1 : blames 1
		E : out x D iL-1 oK1 : E iE-1 oD1
		E : in m 0 D iI1 iS2 iI3 : blames 3
		E : out m D oI1 oS2 oI3 : blames 1
		int 3 : in m 0 D iS1 iI2 iS3 iI4 : blames 3
		int 3 : out m D oI1 oS2 oI3 oS4 : blames 2
		int 3 : in m 0 D iI1 oS2 iI3 oK4 : int 3
		int 3 : in m 0 D iI1 iOther2 iN3 iQ4 oV5 iJ6 : int 3
		int 3 : in m 0 D iS7 iOther2 iN3 iQ4 oV5 iJ6 : blames 7
		int 3 : out m D oI1 iS2 oOther3 oN4 oQ5 iV6 oS7 : blames 7
		E : in m 0 D iK1 iN2 oQ3 iK4 iI5 : blames 5
		E : in m 0 D iK1 iN2 oQ3 iK4 oI5 : E oD4 oD1
		E oE9 iE8 : in m 0 D iK1 iL2 : E oE9 iE8 oE2 oD1
		E oE9 iD8 : in m 0 D iK1 iL2 : blames 2
		E oE9 iD8 : in m 0 D iL1 iK2 : blames 1
		E oE9 : out m D oL1 oK2 oL3 : blames 3
		E oE9 : in m 0 D iL1 iK2 iL3 : blames 1
		null : in m 0 D iL1 oK2 iQ3 : null
		null : in m 0 D iL1 oK2 iI3 : blames 3
		int 3 : in m 2 D iS1 iI2 : int 3
		int 3 : in m 0 D iT1 iF2 : int 3
		int 3 : in m 1 D iT1 iF2 : blames 1
	`)
}

// TestOwnClass holds that an object's own class does nothing to what goes through its layers, and that an object without layers lets all pass.
func TestOwnClass(t *testing.T) {
	holdLines(t, many, `
		str a : in m 0 I : str a
		str a : out m I : str a
		str a : in x 0 I : str a
		str a : out x I : str a
		E : in m 0 K : E
		E : out m K : E
		E iD1 oD2 oD3 oD4 : out m K : E iD1 oD2 oD3 oD4
		str a : in m 0 I iQ1 : str a
		int 3 : in m 0 Other iQ1 iI2 : int 3
		int 3 : in m 0 Other iQ1 iS2 : blames 2
		E : out m S oK1 : E oD1
	`)
}

// TestThroughNoObject holds that what is no object lets all pass, whatever its fields are.
func TestThroughNoObject(t *testing.T) {
	l := classes(many)
	for _, o := range values() {
		o.S, o.Chain = "I", layers("iS1", "oS2", "iK3", "oK4")
		for _, v := range []api.Value{value("int 3"), value("E iD1 oD2 oD3"), value("null"), value("unit"), {}} {
			holdBoth(t, inward(o, "m", 0), l, v, v, 0)
			holdBoth(t, inward(o, "x", 0), l, v, v, 0)
			holdBoth(t, outward(o, "m"), l, v, v, 0)
		}
	}
}

// TestThroughItself holds that an object passes through its own layers.
func TestThroughItself(t *testing.T) {
	l := classes("P p=P m(P)P")
	v := value("P iP1 oP2")
	holdBoth(t, inward(v, "p", 0), l, v, value("P iP1 oP2 iP2 oP1"), 0)
	holdBoth(t, outward(v, "m"), l, v, value("P iP1 oP2 iP1 oP2"), 0)
}

// TestFaultyMembers holds the types of members of tables that are not valid: a field's comes before a method's, the first one of two is taken.
func TestFaultyMembers(t *testing.T) {
	holdLines(t, "A x=int x=str; B x(str)str x=int; C m(str)str m(int)int; D:E x=int; E:D x=str; F:Other x=str; A x=unit; G:H x(str)str; H x=int", `
		int 3 : out x A oA1 : int 3
		str a : out x A oA1 : blames 1
		int 3 : out x A oB1 : int 3
		str a : in x 0 A iB1 : blames 1
		int 3 : in x 5 A iB1 : int 3
		int 3 : in m 0 A iC1 : blames 1
		str a : in m 0 A iC1 : str a
		str a : out m A oC1 : str a
		str a : out x A oD1 : str a
		int 3 : out x A oE1 : int 3
		str a : out x A oF1 : str a
		str a : out x A oG1 : blames 1
		int 3 : in x 0 A iG1 : int 3
	`)
	holdBoth(t, outward(value("A oA1"), "m"), classes("A m()"), value("int 3"), value(""), 1)
	holdBoth(t, outward(value("A iA1"), "m"), classes("A m()"), value("A"), value("A"), 0)
	holdBoth(t, inward(value("A iA1"), "", 0), []api.Class{{Name: "A", Fields: []api.Var{{Type: "str"}}}}, value("int 3"), value(""), 1)
	holdBoth(t, inward(value("A ia1"), "m", 0), classes("a m(str)int"), value("int 3"), value(""), 1)
}

// Limits

// tall returns a table of 40 classes, one below the other, with as many members as there may be.
func tall() []api.Class {
	var l []api.Class
	for i := range 40 {
		c := api.Class{Name: "T" + strconv.Itoa(i)}
		if i > 0 {
			c.Super = l[i-1].Name
		}
		for k := range 20 {
			c.Fields = append(c.Fields, api.Var{Name: "f" + strconv.Itoa(i*20+k), Type: "T39"})
			c.Methods = append(c.Methods, api.Sig{Name: "m" + strconv.Itoa(i*20+k), Params: parameters("?,?,?,?,?,?,?,T39"), Result: "T39"})
		}
		l = append(l, c)
	}
	return l
}

// TestTall holds what objects of the largest classes show and enter.
func TestTall(t *testing.T) {
	l := tall()
	if fault := table.Check(l); fault != (api.Fault{}) {
		t.Fatal(fault)
	}
	for i := 0; i < len(l); i += 13 {
		c := l[i]
		v := api.Value{Tag: 7, S: "T39", Chain: []api.Layer{{Class: c.Name, Label: 1}}}
		if got := coerce.Shows(l, v); len(got) != 40*(i+1) || got[0] != (api.Member{Name: "f0", Arity: -1}) || got[len(got)-1] != (api.Member{Name: "m" + strconv.Itoa(20*i+19), Arity: 8}) {
			t.Errorf("T39 in %s shows %d members", c.Name, len(got))
		}
		for k, d := range l {
			want, blamed := wrapped(v, api.Layer{Out: true, Class: d.Name, Label: 2}), 0
			if k > i {
				want, blamed = value(""), 2
			}
			if got, label := coerce.Enter(l, v, d.Name, 2, k%2 == 0); !equal(got, want) || label != blamed {
				t.Errorf("%+v enters %s: %+v, %d", v, d.Name, got, label)
			}
		}
	}
}

// TestLong holds chains of 100,000 layers: what passes through them, and what has them.
func TestLong(t *testing.T) {
	l, o := tall(), api.Value{Tag: 7, S: "T39"}
	for i := range 100_000 {
		o.Chain = append(o.Chain, api.Layer{Out: i%2 == 1, Class: "T39", Label: i + 1})
	}
	if got := coerce.Shows(l, o); len(got) != 1600 {
		t.Errorf("%d members", len(got))
	}
	v := api.Value{Tag: 7, S: "T39"}
	back := v
	for i := range o.Chain {
		x := o.Chain[len(o.Chain)-1-i]
		x.Out = !x.Out
		back.Chain = append(back.Chain, x)
	}
	for _, c := range []struct {
		c    call
		want []api.Layer
	}{{outward(o, "m0"), o.Chain}, {inward(o, "m7", 7), back.Chain}} {
		if got, label := c.c.do(l, v, false); label != 0 || !slices.Equal(got.Chain, c.want) {
			t.Errorf("%s: %d layers, %d", c.c.what, len(got.Chain), label)
		}
		if got, label := c.c.do(l, v, true); label != 0 || !slices.Equal(got.Chain, chain.Norm(c.want)) {
			t.Errorf("%s: %d layers, %d", c.c.what, len(got.Chain), label)
		}
	}
	got, label := casting("T38", "T38", 7).do(l, o, true)
	if want := chain.Norm(wrapped(o, api.Layer{Class: "T38", Label: -7}, api.Layer{Out: true, Class: "T38", Label: 7}).Chain); label != 0 || !slices.Equal(got.Chain, want) {
		t.Errorf("%+v, %d, and not %+v", got, label, want)
	}
	if got, label := casting("T38", "T39", 7).do(l, o, true); label != 7 || !equal(got, value("")) {
		t.Errorf("%+v, %d", got, label)
	}
}

// TestWideChains holds chains of 100,000 layers of as many classes, which the table does not have.
func TestWideChains(t *testing.T) {
	l, o := classes(three), api.Value{Tag: 7, S: "E"}
	for i := range 100_000 {
		o.Chain = append(o.Chain, api.Layer{Class: "X" + strconv.Itoa(i), Label: 1})
	}
	holdShows(t, l, o, "")
	for _, merged := range []bool{false, true} {
		if got, label := coerce.Enter(l, o, "D", 3, merged); label != 3 || !equal(got, value("")) {
			t.Errorf("%d layers, %d", len(got.Chain), label)
		}
	}
	if got, label := coerce.Enter(l, o, "X5", 3, false); label != 0 || len(got.Chain) != 100_001 {
		t.Errorf("%d layers, %d", len(got.Chain), label)
	}
}
