package printer_test

import (
	"math/rand"
	"slices"
	"strings"
	"testing"

	"chaperon/api"
	"chaperon/lexer"
	"chaperon/parser"
	"chaperon/printer"
	"chaperon/tree"
)

// P14.3

// holdBack holds that what is printed of a tree is parsed as it.
func holdBack(t *testing.T, n api.Node) (string, bool) {
	t.Helper()
	s, f := printer.Print(n)
	if f == (api.Fault{Err: api.ErrLong}) {
		return "", false
	}
	x, g := parser.Parse([]byte(s))
	if f != (api.Fault{}) || g != (api.Fault{}) || !equal(x, n) || !tree.Same(x, n) {
		t.Fatalf("%s: %s %v, and of it %s %v", show(n), short(s), f, show(x), g)
	}
	return s, true
}

// pairs returns the places of the tokens that are a ( and its ), pair by pair.
func pairs(l []api.Token) [][2]int {
	var all [][2]int
	var open []int
	for i, x := range l {
		switch {
		case x.Kind == api.TokSign && x.Text == "(":
			open = append(open, i)
		case x.Kind == api.TokSign && x.Text == ")":
			last := len(open) - 1
			all = append(all, [2]int{open[last], i})
			open = open[:last]
		}
	}
	return all
}

// holdNecessary holds that no pair of brackets can be taken away without giving another tree, or none; it returns how many pairs there are.
func holdNecessary(t *testing.T, n api.Node) int {
	t.Helper()
	l, _ := printer.Tokens(n)
	all := pairs(l)
	for _, p := range all {
		without := slices.Delete(slices.Delete(slices.Clone(l), p[1], p[1]+1), p[0], p[0]+1)
		s, err := lexer.Join(without)
		if err != api.OK {
			t.Fatalf("%s: %v", show(n), err)
		}
		if x, f := parser.Parse([]byte(s)); f == (api.Fault{}) && equal(x, n) {
			t.Fatalf("%s: as well as %s", show(n), short(s))
		}
	}
	return len(all)
}

// TestPrintedIsParsed holds that trees of all kinds are printed as sources of themselves, without a pair of brackets too many.
func TestPrintedIsParsed(t *testing.T) {
	t.Parallel()
	brackets, printed := 0, 0
	made(2000, func(m maker, n api.Node) {
		if _, is := holdBack(t, n); !is {
			return
		}
		printed++
		if tree.Count(n) < 200 {
			brackets += holdNecessary(t, n)
		}
	})
	if printed < 1900 || brackets < 20000 {
		t.Errorf("%d trees, %d pairs of brackets", printed, brackets)
	}
}

// TestSmallAreParsed holds the same of all small expressions, and of some that are a little larger.
func TestSmallAreParsed(t *testing.T) {
	t.Parallel()
	brackets := 0
	hold := func(x api.Node) {
		n := prog(block(x))
		if _, is := holdBack(t, n); !is {
			t.Fatalf("%s is too long", show(n))
		}
		brackets += holdNecessary(t, n)
	}
	small := exprs(3)
	for _, x := range small {
		hold(x)
	}
	r := rand.New(rand.NewSource(15))
	by := heads()
	for range 10000 {
		x := small[r.Intn(len(small))]
		for range 1 + r.Intn(3) {
			if r.Intn(2) == 0 {
				x = by[1][r.Intn(len(by[1]))]([]api.Node{x})
				continue
			}
			l := []api.Node{x, small[r.Intn(len(small))]}
			k := r.Intn(2)
			x = by[2][r.Intn(len(by[2]))]([]api.Node{l[k], l[1-k]})
		}
		hold(x)
	}
	if brackets < 50000 {
		t.Errorf("%d pairs of brackets", brackets)
	}
}

// holdStays holds that what is parsed of a source, printed, and parsed again is the same, and is printed as it was; and that there is no source of it with fewer tokens. It reports whether the source has a tree that is printed.
func holdStays(t *testing.T, s string) bool {
	t.Helper()
	n, f := parser.Parse([]byte(s))
	if f != (api.Fault{}) {
		return false
	}
	first, is := holdBack(t, n)
	if !is {
		return false
	}
	again, _ := parser.Parse([]byte(first))
	if second, f := printer.Print(again); f != (api.Fault{}) || second != first {
		t.Fatalf("%s: %s, and then %s %v", short(s), short(first), short(second), f)
	}
	l, _ := lexer.Lex([]byte(s))
	if tokens, _ := printer.Tokens(n); len(tokens) > len(l) {
		t.Fatalf("%s has fewer tokens than %s", short(s), short(first))
	}
	return true
}

// blanks returns words as a source, with blanks between them by chance.
func (m maker) blanks(l []word) string {
	var all strings.Builder
	for _, x := range l {
		all.WriteString(x.spelt + m.of(" ", " ", "\n", "\t", "\r\n", " // c \" ( if\n", "  "))
	}
	return all.String()
}

// TestParsedIsPrinted holds what is printed of sources that have more than they need: brackets, types, blanks, a ; before the end of a block.
func TestParsedIsPrinted(t *testing.T) {
	t.Parallel()
	printed := 0
	made(2000, func(m maker, n api.Node) {
		more := newWriter(m.r).node(n)
		s := m.blanks(more)
		if len(s) > 20000 {
			return
		}
		if x, f := parser.Parse([]byte(s)); f != (api.Fault{}) || !equal(x, n) {
			t.Fatalf("%s: %s %v, and not %s", short(s), show(x), f, show(n))
		}
		if holdStays(t, s) {
			printed++
		}
	})
	if printed < 1800 {
		t.Errorf("%d sources", printed)
	}
}

// tokens returns the tokens of words.
func tokens(l []word) []api.Token {
	var all []api.Token
	for _, x := range l {
		all = append(all, x.Token)
	}
	return all
}

// TestChangedIsPrinted holds the same of sources in which a token is taken away, put elsewhere or replaced, or a pair of brackets taken away.
func TestChangedIsPrinted(t *testing.T) {
	t.Parallel()
	operations := strings.Fields("|| && == != < <= + - * / % . , = ;")
	all := plainWords(strings.Fields(words + " " + signs + " x C")...)
	printed := 0
	made(1000, func(m maker, n api.Node) {
		l := newWriter(m.r).node(n)
		if len(l) > 300 {
			return
		}
		change := func(from, to int, by ...word) {
			if holdStays(t, source(slices.Replace(slices.Clone(l), from, to, by...))) {
				printed++
			}
		}
		for range 10 {
			i, k := m.r.Intn(len(l)), m.r.Intn(len(l))
			change(i, i+1)
			change(i, i, l[k])
			change(i, i+1, all[m.r.Intn(len(all))])
		}
		for i, x := range l {
			if slices.Contains(operations, x.Text) {
				change(i, i+1, plainWord(m.of(operations...)))
			}
		}
		for _, p := range pairs(tokens(l)) {
			change(p[0], p[1]+1, l[p[0]+1:p[1]]...)
		}
	})
	if printed < 5000 {
		t.Errorf("%d sources", printed)
	}
}

// TestOneForm holds that trees that are not the same are not printed as one text.
func TestOneForm(t *testing.T) {
	t.Parallel()
	seen := map[string]bool{}
	for _, x := range exprs(3) {
		s, _ := printer.Print(prog(block(x)))
		if seen[s] {
			t.Fatalf("%s: not %s alone", short(s), show(x))
		}
		seen[s] = true
	}
}
