package sites_test

import (
	"math"
	"reflect"
	"slices"
	"strconv"
	"strings"
	"testing"

	"chaperon/api"
	"chaperon/sites"
	"chaperon/table"
)

// classes makes a table of a text: classes with ; between them, each its name, or name:superclass, its fields as name=type, its methods as name(parameters)result.
func classes(text string) []api.Class {
	var t []api.Class
	for _, part := range strings.Split(text, ";") {
		words := strings.Fields(part)
		if len(words) == 0 {
			continue
		}
		c := api.Class{}
		c.Name, c.Super, _ = strings.Cut(words[0], ":")
		for _, w := range words[1:] {
			if name, rest, is := strings.Cut(w, "("); is {
				params, result, _ := strings.Cut(rest, ")")
				c.Methods = append(c.Methods, api.Sig{Name: name, Params: parameters(params), Result: result})
				continue
			}
			name, typ, _ := strings.Cut(w, "=")
			c.Fields = append(c.Fields, api.Var{Name: name, Type: typ})
		}
		t = append(t, c)
	}
	return t
}

// parameters makes parameters of types with commas between them; one may have its name and = before it.
func parameters(text string) []api.Var {
	var l []api.Var
	if text == "" {
		return nil
	}
	for i, typ := range strings.Split(text, ",") {
		v := api.Var{Name: "p" + strconv.Itoa(i), Type: typ}
		if name, own, is := strings.Cut(typ, "="); is {
			v = api.Var{Name: name, Type: own}
		}
		l = append(l, v)
	}
	return l
}

// what returns the number of a kind of sites; a number stands for itself.
func what(word string) int {
	switch word {
	case "cast":
		return api.SiteCast
	case "get":
		return api.SiteGet
	case "put":
		return api.SitePut
	case "call":
		return api.SiteCall
	case "op":
		return api.SiteBin
	}
	n, err := strconv.Atoi(word)
	if err != nil {
		panic("no kind of sites: " + word)
	}
	return n
}

// list makes sites of a text: sites with ; between them, each its kind, one type, and the other one.
func list(text string) []api.Site {
	var l []api.Site
	for _, part := range strings.Split(text, ";") {
		w := strings.Fields(part)
		if len(w) == 0 {
			continue
		}
		if len(w) != 3 {
			panic("no site: " + part)
		}
		l = append(l, api.Site{What: what(w[0]), From: w[1], To: w[2]})
	}
	return l
}

// two is the chapter's table, four its sites.
const (
	two  = "A m()int; B m()?"
	four = "cast ? A; cast B A; cast B A; op ? ?"
)

// wide is a table of all sorts of pairs of classes: of more members and fewer, of more types and fewer, below one another, of none at all, in cycles.
const wide = "A x=int; B:A y=?; C x=?; D x=int y=int; E; F next=F x=?; G next=G x=int; H m(A)int; I m(B)int; J m(?)?; K x=str"

// bases returns the base types.
func bases() []string {
	return []string{"int", "real", "bool", "str", "unit"}
}

// noTypes returns texts that are no types, and names of classes that hardly any table here has.
func noTypes() []string {
	return []string{
		"", " ", "a", "m", "x", "Int", "int ", " int", "integer", "object", "??", "? ", " ?", "?A", "A?", "A ", " A", "A > B", "Aa", "1", "\x00", "Zz", "é", "\xff",
		strings.Repeat("A", 20), strings.Repeat("A", 21), strings.Repeat("A", 1000),
	}
}

// typesOf returns the types of a valid table.
func typesOf(t []api.Class) []string {
	l := append(bases(), "?")
	for _, c := range t {
		l = append(l, c.Name)
	}
	return l
}

// dynamicKinds returns the kinds of sites that are no casts.
func dynamicKinds() []int {
	return []int{api.SiteGet, api.SitePut, api.SiteCall, api.SiteBin}
}

// noKinds returns numbers that are of no kind of sites.
func noKinds() []int {
	return []int{0, -1, -2, -5, -6, 6, 7, 8, 10, 100, 256, 257, 1 << 32, 1<<32 + 1, math.MinInt, math.MinInt + 1, math.MaxInt}
}

// holdValid holds that a table has no fault: what is asked of it is not refused for that.
func holdValid(t *testing.T, l []api.Class) {
	t.Helper()
	if f := table.Check(l); f != (api.Fault{}) {
		t.Fatalf("%v: the fault %v", l, f)
	}
}

// holdCheck holds what Check says.
func holdCheck(t *testing.T, of []api.Class, l []api.Site, err api.Errno, at int) {
	t.Helper()
	if f := sites.Check(of, l); f != (api.Fault{Err: err, At: at}) {
		if len(l) > 10 {
			l = l[:10]
		}
		t.Errorf("%v, %v: the fault %v, and not %v at %d", of, l, f, err, at)
	}
}

// holdLabel holds what all three calls say of a label: the sides and the text of a good one.
func holdLabel(t *testing.T, of []api.Class, l []api.Site, label int, blamed, other string, may bool, text string) {
	t.Helper()
	if a, b, err := sites.Sides(l, label); a != blamed || b != other || err != api.OK {
		t.Errorf("Sides %d: %q %q %v", label, a, b, err)
	}
	if is, err := sites.May(of, l, label); is != may || err != api.OK {
		t.Errorf("May %d: %t %v", label, is, err)
	}
	if s, err := sites.Text(l, label); s != text || err != api.OK {
		t.Errorf("Text %d: %q %v", label, s, err)
	}
}

// holdNoLabel holds that all three calls refuse a label, with nothing beside the error.
func holdNoLabel(t *testing.T, of []api.Class, l []api.Site, label int) {
	t.Helper()
	if a, b, err := sites.Sides(l, label); a != "" || b != "" || err != api.ErrRange {
		t.Errorf("%d sites: Sides %d: %q %q %v", len(l), label, a, b, err)
	}
	if is, err := sites.May(of, l, label); is || err != api.ErrRange {
		t.Errorf("%d sites: May %d: %t %v", len(l), label, is, err)
	}
	if s, err := sites.Text(l, label); s != "" || err != api.ErrRange {
		t.Errorf("%d sites: Text %d: %q %v", len(l), label, s, err)
	}
}

// holdMay holds whether a site's labels may be blamed: that above 0, and that below it.
func holdMay(t *testing.T, of []api.Class, s api.Site, above, below bool) {
	t.Helper()
	for _, l := range [][]api.Site{{s}, {{What: api.SiteCast, From: "str", To: "?"}, s, {}}} {
		at := slices.Index(l, s) + 1
		for label, may := range map[int]bool{at: above, -at: below} {
			if is, err := sites.May(of, l, label); is != may || err != api.OK {
				t.Errorf("%v, %v: May %d: %t %v", of, l, label, is, err)
			}
		}
	}
}

// The chapter's examples

func TestExamplesCheck(t *testing.T) {
	of := classes(two)
	holdValid(t, of)
	holdCheck(t, of, list(four), api.OK, 0)
	holdCheck(t, of, list("cast int int"), api.ErrType, 0)
	holdCheck(t, of, list("cast int str"), api.ErrType, 0)
	holdCheck(t, of, list("6 ? ?"), api.ErrArg, 0)
	holdCheck(t, of, list("call A ?"), api.ErrArg, 0)
}

func TestExamplesLabels(t *testing.T) {
	of, l := classes(two), list(four)
	holdLabel(t, of, l, 1, "?", "A", true, "1 + cast ? > A")
	holdLabel(t, of, l, -1, "A", "?", false, "1 - cast ? > A")
	holdLabel(t, of, l, 2, "B", "A", true, "2 + cast B > A")
	holdLabel(t, of, l, -2, "A", "B", false, "2 - cast B > A")
	holdLabel(t, of, l, 3, "B", "A", true, "3 + cast B > A")
	holdLabel(t, of, l, -3, "A", "B", false, "3 - cast B > A")
	holdLabel(t, of, l, 4, "?", "?", true, "4 + op ? > ?")
	holdLabel(t, of, l, -4, "?", "?", false, "4 - op ? > ?")
	for _, label := range []int{0, 5, -5} {
		holdNoLabel(t, of, l, label)
	}
}

// P9.1

// TestCheckNothing holds that no sites have no fault, whatever the table.
func TestCheckNothing(t *testing.T) {
	for _, text := range append(faults(), "", two, wide) {
		holdCheck(t, classes(text), nil, api.OK, 0)
		holdCheck(t, classes(text), []api.Site{}, api.OK, 0)
	}
}

// TestCheckCasts holds all pairs of types of a table: those of the casts that are valid are listed.
func TestCheckCasts(t *testing.T) {
	of := classes(wide)
	holdValid(t, of)
	pairs := strings.Fields("AC AE BC BD BE CA CE CK DA DB DC DE FA FC FE FG FK GA GC GE GF HE HI HJ IE IJ JE JH JI KC KE")
	for _, s := range typesOf(of) {
		for _, u := range typesOf(of) {
			err := api.ErrType
			if slices.Contains(pairs, s+u) || (s == "?") != (u == "?") {
				err = api.OK
			}
			holdCheck(t, of, []api.Site{{What: api.SiteCast, From: s, To: u}}, err, 0)
		}
	}
}

// TestCheckNoTypes holds that a cast of something that is no type of the table is not valid, not even from or to ?.
func TestCheckNoTypes(t *testing.T) {
	for _, text := range []string{"", "X", "X:Y; Y x=?"} {
		of := classes(text)
		holdValid(t, of)
		for _, s := range noTypes() {
			for _, u := range append(typesOf(of), s) {
				holdCheck(t, of, []api.Site{{What: api.SiteCast, From: s, To: u}}, api.ErrType, 0)
				holdCheck(t, of, []api.Site{{What: api.SiteCast, From: u, To: s}}, api.ErrType, 0)
			}
		}
	}
}

// TestCheckDynamic holds that a site that is no cast has ? on both sides, whatever the table.
func TestCheckDynamic(t *testing.T) {
	for _, text := range []string{"", two, "A; A"} {
		of := classes(text)
		for _, kind := range dynamicKinds() {
			holdCheck(t, of, []api.Site{{What: kind, From: "?", To: "?"}}, api.OK, 0)
			for _, s := range append(append(noTypes(), bases()...), "B") {
				for _, l := range [][]api.Site{{{What: kind, From: s, To: "?"}}, {{What: kind, From: "?", To: s}}, {{What: kind, From: s, To: s}}} {
					holdCheck(t, of, l, api.ErrArg, 0)
					holdCheck(t, of, append(list("get ? ?; op ? ?"), l...), api.ErrArg, 2)
				}
			}
		}
	}
}

// TestCheckNoKinds holds that other numbers are of no kind, whatever the types.
func TestCheckNoKinds(t *testing.T) {
	of := classes(two)
	for _, n := range noKinds() {
		for _, types := range [][2]string{{"?", "?"}, {"?", "A"}, {"B", "A"}, {"int", "int"}, {"int", "str"}, {"Zz", ""}} {
			s := api.Site{What: n, From: types[0], To: types[1]}
			holdCheck(t, of, []api.Site{s}, api.ErrArg, 0)
			holdCheck(t, of, append(list(four), s), api.ErrArg, 4)
			holdCheck(t, classes("A; A"), []api.Site{s}, api.ErrArg, 0)
		}
	}
	holdCheck(t, of, make([]api.Site, 3), api.ErrArg, 0)
}

// TestCheckFirst holds that the first site that is not valid counts, whichever way it is so.
func TestCheckFirst(t *testing.T) {
	of := classes(two)
	for _, x := range []struct {
		text string
		err  api.Errno
		at   int
	}{
		{"cast int str; 6 ? ?", api.ErrType, 0},
		{"6 ? ?; cast int str", api.ErrArg, 0},
		{"get ? A; cast int str", api.ErrArg, 0},
		{"cast A A; get ? A; 6 ? ?; cast int str", api.ErrType, 0},
		{"cast ? A; cast A ?; cast ? ?; get A ?", api.ErrType, 2},
		{"cast ? A; cast A ?; get A ?; cast ? ?", api.ErrArg, 2},
		{"op ? ?; call ? ?; put ? ?; get ? ?; 0 ? ?; cast int int", api.ErrArg, 4},
		{"op ? ?; call ? ?; put ? ?; get ? ?; cast int int; 0 ? ?", api.ErrType, 4},
		{"op ? ?; call ? ?; put ? ?; get ? ?; cast int ?", api.OK, 0},
	} {
		holdCheck(t, of, list(x.text), x.err, x.at)
	}
}

// TestCheckAgain holds that a cast that was valid before says nothing of one the other way round, or of one that has one of its types, or of another kind.
func TestCheckAgain(t *testing.T) {
	of := classes("A x=int; B:A; C x=int y=int; D")
	holdValid(t, of)
	for _, x := range []struct {
		text string
		err  api.Errno
		at   int
	}{
		{"cast C A; cast C A; cast C A; cast C A", api.OK, 0},
		{"cast C A; cast A C", api.ErrType, 1},
		{"cast A B; cast B A", api.ErrType, 1},
		{"cast C A; cast C B; cast C D; cast A B; cast A D; cast D D", api.ErrType, 5},
		{"cast C A; cast C D; cast D A", api.ErrType, 2},
		{"cast ? int; cast int ?; cast int int", api.ErrType, 2},
		{"cast ? int; cast int ?; cast ? str; cast str ?; cast int str", api.ErrType, 4},
		{"cast ? int; cast int ?; cast ? ?", api.ErrType, 2},
		{"cast ? int; cast int ?; op ? ?; cast ? int; cast ? ?", api.ErrType, 4},
		{"cast ? A; op ? A", api.ErrArg, 1},
		{"cast ? A; 6 ? A", api.ErrArg, 1},
		{"op ? ?; cast ? ?", api.ErrType, 1},
		{"op ? ?; 6 ? ?", api.ErrArg, 1},
		{"cast C A; cast C A; cast C ?; cast ? C; cast C A; cast A C; cast C A", api.ErrType, 5},
	} {
		holdCheck(t, of, list(x.text), x.err, x.at)
	}
	// Types are not told apart by what they are when written one after the other.
	of = classes("A; AB; B; BA x=int")
	holdCheck(t, of, list("cast AB A; cast A BA"), api.ErrType, 1)
	holdCheck(t, of, list("cast BA A; cast B AA"), api.ErrType, 1)
}

// TestCheckMany holds the limit: whatever is wrong beside, too many sites are what counts.
func TestCheckMany(t *testing.T) {
	if api.MaxSites != 5000 {
		t.Fatal(api.MaxSites)
	}
	for _, text := range []string{two, "A; A"} {
		of := classes(text)
		for _, s := range list("get ? ?; op ? ?; cast ? A; cast int int; 6 ? ?") {
			for _, n := range []int{5001, 5002, 6000, 100000} {
				holdCheck(t, of, slices.Repeat([]api.Site{s}, n), api.ErrMany, 5000)
			}
		}
		holdCheck(t, of, slices.Repeat(list("call ? ?"), 5000), api.OK, 0)
		holdCheck(t, of, append(slices.Repeat(list("call ? ?"), 4999), list("put A ?")...), api.ErrArg, 4999)
		holdCheck(t, of, append(slices.Repeat(list("call ? ?"), 4999), list("cast A A")...), api.ErrType, 4999)
	}
	of := classes(two)
	for _, text := range []string{"cast ? A", "cast B A", "cast B A; cast A B; cast ? int; op ? ?; cast B ?"} {
		l := slices.Repeat(list(text), 5000)[:5000]
		holdCheck(t, of, l, api.OK, 0)
		holdCheck(t, of, l[:4999], api.OK, 0)
		l[4999] = api.Site{What: api.SiteCast, From: "A", To: "A"}
		holdCheck(t, of, l, api.ErrType, 4999)
		l[4998] = api.Site{What: api.SiteGet, From: "A", To: "?"}
		holdCheck(t, of, l, api.ErrArg, 4998)
	}
}

// TestCheckFull holds as many sites as there may be, of the largest table, whose classes all go to one another.
func TestCheckFull(t *testing.T) {
	of := full()
	holdValid(t, of)
	var some []api.Site
	for i := range 20 {
		some = append(some, api.Site{What: api.SiteCast, From: of[i].Name, To: of[39-i].Name})
	}
	l := slices.Repeat(some, 250)
	holdCheck(t, of, l, api.OK, 0)
	l[4999].To = l[4999].From
	holdCheck(t, of, l, api.ErrType, 4999)
	of[0].Super = "C0"
	holdCheck(t, of, l, api.ErrType, 0)
}

// full returns a table of 40 classes, each with 20 fields and 20 methods of eight parameters.
func full() []api.Class {
	var l []api.Class
	for i := range api.MaxClasses {
		c := api.Class{Name: "C" + strconv.Itoa(i)}
		for k := range api.MaxMembers {
			typ := "C" + strconv.Itoa((i+k)%api.MaxClasses)
			c.Fields = append(c.Fields, api.Var{Name: "f" + strconv.Itoa(k), Type: typ})
			m := api.Sig{Name: "m" + strconv.Itoa(k), Result: typ}
			for p := range api.MaxParams {
				m.Params = append(m.Params, api.Var{Name: "p" + strconv.Itoa(p), Type: typ})
			}
			c.Methods = append(c.Methods, m)
		}
		l = append(l, c)
	}
	return l
}

// TestCheckFaultyTables holds that each cast of a table with a fault is not valid, and that other sites are as ever.
func TestCheckFaultyTables(t *testing.T) {
	for _, text := range faults() {
		for _, of := range [][]api.Class{classes(text), classes(two + ";" + text), classes(text + ";" + two)} {
			if table.Check(of).Err == api.OK {
				t.Fatalf("%q has no fault", text)
			}
			for _, cast := range []string{"? int", "int ?", "? A", "A ?", "B A", "A B", "Z ?", "? Z", "int int", "? ?", "int str"} {
				holdCheck(t, of, list("cast "+cast), api.ErrType, 0)
				holdCheck(t, of, list("get ? ?; put ? ?; cast "+cast+"; 6 ? ?"), api.ErrType, 2)
				holdCheck(t, of, list("get ? ?; 6 ? ?; cast "+cast), api.ErrArg, 1)
			}
			holdCheck(t, of, list("get ? ?; put ? ?; call ? ?; op ? ?"), api.OK, 0)
			holdCheck(t, of, list("get ? ?; put ? A"), api.ErrArg, 1)
		}
	}
}

// many returns n times a text, with %'s instead of which there is a number.
func many(n int, text string) string {
	all := ""
	for i := range n {
		all += strings.ReplaceAll(text, "%", strconv.Itoa(i))
	}
	return all
}

// faults returns tables with a fault of each sort, as texts.
func faults() []string {
	return []string{
		many(41, "C%; "), "Z " + many(21, "x%=int "), "Z " + many(21, "m%()int "), "Z m(int" + many(8, ",int") + ")int",
		"z", ":Z; Z", "int", "?", strings.Repeat("Z", 21), "Z X=int", "Z if=int", "Z x=a", "Z m()", "Z m(A=int)int",
		"Z:Y", "Z x=Y", "Z m()Y", "Z m(Y)int",
		"Z; Z", "Z x=int x=int", "Z m=int m()int", "Z m(a=int,a=int)int", "Y x=int; Z:Y x=int", "Y x()int; Z:Y x=int",
		"Z:Z", "Y:Z; Z:Y", "Y m()int; Z:Y m()?", "Y m(int)int; Z:Y m()int",
	}
}

// P9.2: the labels

// TestLabels holds which labels there are, for lists of several lengths: there are labels even if there are more sites than Check lets pass.
func TestLabels(t *testing.T) {
	of := classes(two)
	for _, n := range []int{0, 1, 2, 3, 10, 4999, 5000, 5001, 12345} {
		var l []api.Site
		for i := range n {
			l = append(l, api.Site{What: i % 7, From: "F" + strconv.Itoa(i), To: "T" + strconv.Itoa(i)})
		}
		for _, label := range []int{1, 2, 3, 7, 10, n / 2, n - 1, n} {
			if label < 1 || label > n {
				continue
			}
			at := strconv.Itoa(label - 1)
			word := []string{"?", "cast", "get", "put", "call", "op", "?"}[(label-1)%7]
			from, to, number := "F"+at, "T"+at, strconv.Itoa(label)
			holdLabel(t, of, l, label, from, to, true, number+" + "+word+" "+from+" > "+to)
			// They are no types of the table: none is as precise as the other one.
			holdLabel(t, of, l, -label, to, from, word == "cast", number+" - "+word+" "+from+" > "+to)
		}
		for _, label := range []int{0, n + 1, -n - 1, n + 2, -n - 2, 2*n + 1, 1 << 32, -1 << 32, 1<<32 + 1, math.MaxInt, -math.MaxInt, math.MinInt, math.MinInt + 1} {
			holdNoLabel(t, of, l, label)
		}
	}
}

// TestLabelsOfAny holds that the sides and the text of a label are told of any site, valid or not, and of any texts.
func TestLabelsOfAny(t *testing.T) {
	of := classes(two)
	texts := []string{"", " ", ">", "?", "int", "A", "a b", "A > B", "\n", "\x00\xff", "é", strings.Repeat("x", 5000)}
	for _, from := range texts {
		for _, to := range texts {
			l := []api.Site{{What: api.SiteGet, From: from, To: to}, {What: -1, From: to, To: from}}
			holdLabel(t, of, l, 1, from, to, true, "1 + get "+from+" > "+to)
			holdLabel(t, of, l, -1, to, from, false, "1 - get "+from+" > "+to)
			holdLabel(t, of, l, 2, to, from, true, "2 + ? "+to+" > "+from)
			holdLabel(t, of, l, -2, from, to, false, "2 - ? "+to+" > "+from)
		}
	}
}

// TestTextWords holds the word of each kind, and of what is none.
func TestTextWords(t *testing.T) {
	if k := []int{api.SiteCast, api.SiteGet, api.SitePut, api.SiteCall, api.SiteBin}; !slices.Equal(k, []int{1, 2, 3, 4, 5}) {
		t.Fatal(k)
	}
	for n, word := range map[int]string{1: "cast", 2: "get", 3: "put", 4: "call", 5: "op"} {
		l := []api.Site{{What: n, From: "A", To: "?"}}
		for label, sign := range map[int]string{1: "+", -1: "-"} {
			if s, err := sites.Text(l, label); s != "1 "+sign+" "+word+" A > ?" || err != api.OK {
				t.Errorf("the kind %d: %q %v", n, s, err)
			}
		}
	}
	for _, n := range noKinds() {
		l := []api.Site{{}, {What: n, From: "?", To: "int"}}
		if s, err := sites.Text(l, -2); s != "2 - ? ? > int" || err != api.OK {
			t.Errorf("the kind %d: %q %v", n, s, err)
		}
		if s, err := sites.Text(l, 1); s != "1 + ?  > " || err != api.OK {
			t.Errorf("no texts: %q %v", s, err)
		}
	}
}

// TestMayCasts holds all pairs of types of a table: the pairs of classes of which the first one is as precise as the second one are listed.
func TestMayCasts(t *testing.T) {
	of := classes(wide)
	holdValid(t, of)
	pairs := strings.Fields("AC AE BA BC BE CE DA DB DC DE FC FE GA GC GE GF HE HJ IE IH IJ JE KC KE")
	precise := func(s, u string) bool { return s == u || u == "?" || slices.Contains(pairs, s+u) }
	for _, s := range typesOf(of) {
		for _, u := range typesOf(of) {
			// Whether the cast is valid does not matter.
			holdMay(t, of, api.Site{What: api.SiteCast, From: s, To: u}, !precise(s, u), !precise(u, s))
		}
	}
}

// TestMayEither holds casts of which both labels may be blamed, one, and none.
func TestMayEither(t *testing.T) {
	of := classes("A x=int y=?; B x=? y=int; C x=? y=?; D x=int y=?; E x=int y=int; F m(int)?; G m(?)int; M me=M; N me=N")
	holdValid(t, of)
	for text, may := range map[string][2]bool{
		"A B": {true, true}, "B A": {true, true}, "F G": {true, true}, "G F": {true, true},
		"A C": {false, true}, "C A": {true, false}, "E A": {false, true}, "A E": {true, false},
		"A D": {false, false}, "D A": {false, false}, "M N": {false, false}, "N M": {false, false},
		"? M": {true, false}, "M ?": {false, true}, "? str": {true, false}, "str ?": {false, true},
	} {
		s := list("cast " + text)[0]
		holdCheck(t, of, []api.Site{s}, api.OK, 0)
		holdMay(t, of, s, may[0], may[1])
	}
}

// TestMayOthers holds that of what is no cast each label above 0 may be blamed, and no other one, whatever the types and the table.
func TestMayOthers(t *testing.T) {
	for _, text := range []string{"", two, "A; A"} {
		of := classes(text)
		for _, kind := range append(dynamicKinds(), noKinds()...) {
			for _, types := range [][2]string{{"?", "?"}, {"?", "A"}, {"A", "?"}, {"B", "A"}, {"A", "B"}, {"int", "str"}, {"int", "int"}, {"Zz", ""}} {
				holdMay(t, of, api.Site{What: kind, From: types[0], To: types[1]}, true, false)
			}
		}
	}
}

// TestMayNothingPrecise holds that if a table has a fault, or does not have the types, nothing is as precise as anything: both labels of a cast may be blamed.
func TestMayNothingPrecise(t *testing.T) {
	for _, text := range faults() {
		of := classes(two + ";" + text)
		for _, types := range []string{"? A", "A ?", "B A", "A A", "int ?", "? ?", "int str"} {
			holdMay(t, of, list("cast " + types)[0], true, true)
		}
	}
	for _, s := range noTypes() {
		for _, u := range []string{s, "?", "A", "int"} {
			if s != "A" {
				holdMay(t, classes("B; X"), api.Site{What: api.SiteCast, From: s, To: u}, true, true)
				holdMay(t, classes("B; X"), api.Site{What: api.SiteCast, From: u, To: s}, true, true)
			}
		}
	}
}

// What is handed in

// TestNothingChanged holds that no call changes a table or a list, or what lies behind them, or looks at that.
func TestNothingChanged(t *testing.T) {
	of, ofBefore := classes(two+"; S x=S"), classes(two+"; S x=S")
	l, before := list(four+"; cast ? S"), list(four+"; cast ? S")
	of[0].Methods = append(of[0].Methods, api.Sig{Name: "spare"})[:1]
	whole, wholeOf := l, of
	l, of = l[:4], of[:2]
	ask := func() (said []string) {
		f := sites.Check(of, l)
		said = append(said, strconv.Itoa(int(f.Err)), strconv.Itoa(f.At))
		for label := -6; label <= 6; label++ {
			a, b, err := sites.Sides(l, label)
			is, _ := sites.May(of, l, label)
			s, _ := sites.Text(l, label)
			said = append(said, a, b, strconv.Itoa(int(err)), strconv.FormatBool(is), s)
		}
		return said
	}
	first := ask()
	if first[0] != "0" || !slices.Equal(first, ask()) {
		t.Error("an answer depends on an earlier one")
	}
	holdNoLabel(t, of, l, 5)
	holdNoLabel(t, of, l, -5)
	holdCheck(t, of, whole, api.ErrType, 4)
	if !reflect.DeepEqual(whole, before) || !reflect.DeepEqual(wholeOf, ofBefore) || of[0].Methods[:2][1].Name != "spare" {
		t.Error("a call changed what it was given")
	}
	clear(whole[4:])
	clear(wholeOf[2:])
	if !slices.Equal(first, ask()) {
		t.Error("an answer depends on what lies behind a list")
	}
}

// TestChanged holds that a table and a list that a caller has changed are other ones.
func TestChanged(t *testing.T) {
	of, l := classes("A x=int; B x=?"), list("cast B A; cast ? B")
	holdCheck(t, of, l, api.OK, 0)
	holdMay(t, of, l[0], true, false)
	of[0].Fields[0].Type = "?"
	holdCheck(t, of, l, api.OK, 0)
	holdMay(t, of, l[0], false, false)
	of[1].Fields[0].Type = "str"
	holdCheck(t, of, l, api.OK, 0)
	holdMay(t, of, l[0], false, true)
	of[0].Fields[0].Type = "int"
	holdCheck(t, of, l, api.ErrType, 0)
	holdMay(t, of, l[0], true, true)
	of[1].Fields, of[1].Super = nil, "A"
	holdCheck(t, of, l, api.ErrType, 0)
	holdMay(t, of, l[0], false, false)
	l[0].From, l[0].To = l[0].To, l[0].From
	holdCheck(t, of, l, api.OK, 0)
	l[1].What = api.SitePut
	holdCheck(t, of, l, api.ErrArg, 1)
	l[1].To = "?"
	holdCheck(t, of, l, api.OK, 0)
	holdLabel(t, of, l, -2, "?", "?", false, "2 - put ? > ?")
	of[1].Super = "B"
	holdCheck(t, of, l, api.ErrType, 0)
}
