package lexer_test

import (
	"slices"
	"strings"
	"testing"

	"chaperon/api"
	"chaperon/lexer"
)

// P11.3

// unplaced returns tokens without their places.
func unplaced(l []api.Token) []api.Token {
	l = slices.Clone(l)
	for i := range l {
		l[i].At = 0
	}
	return l
}

// valid calls do with sources without a fault, and their tokens.
func valid(t *testing.T, do func(m maker, s string, l []api.Token)) {
	t.Helper()
	sources, tokens := 0, 0
	made(func(m maker, s string) {
		l, f := lexer.Lex([]byte(s))
		if f.Err != api.OK {
			return
		}
		sources++
		tokens += len(l)
		do(m, s, l)
	})
	if sources < 5000 || tokens < 50000 {
		t.Errorf("%d sources of %d tokens", sources, tokens)
	}
}

// holdJoined holds that tokens that are joined are divided again, and joined as before.
func holdJoined(t *testing.T, l []api.Token) {
	t.Helper()
	s, err := lexer.Join(l)
	if err != api.OK {
		t.Fatalf("%v: error %d", l, err)
	}
	if len(s) > 20000 {
		return
	}
	again, f := lexer.Lex([]byte(s))
	if f != (api.Fault{}) || !slices.Equal(unplaced(again), unplaced(l)) {
		t.Fatalf("%s: %v %v", short(s), again, f)
	}
	if joined, err := lexer.Join(again); joined != s || err != api.OK {
		t.Fatalf("%s: %s, error %d", short(s), short(joined), err)
	}
}

func TestJoinedAndDivided(t *testing.T) {
	valid(t, func(m maker, s string, l []api.Token) {
		holdJoined(t, l)
		m.r.Shuffle(len(l), func(i, k int) { l[i], l[k] = l[k], l[i] })
		holdJoined(t, l)
	})
}

// some returns tokens of all sorts.
func some() []api.Token {
	l := []api.Token{
		tok(name, "a"), tok(name, "r"), tok(name, "n"), tok(name, strings.Repeat("a", 20)), tok(class, "C"), tok(class, "R2"), num(whole, 0), num(whole, 1), num(whole, 1<<63-1), num(real, 0), num(real, 12), num(real, 1<<53),
		tok(text, ""), tok(text, "\""), tok(text, "\\"), tok(text, "\n"), tok(text, " // "), tok(text, "if"), tok(text, "n"), tok(text, strings.Repeat("\\", 1000)),
	}
	for _, s := range signs() {
		l = append(l, tok(sign, s))
	}
	for _, s := range reserved() {
		l = append(l, tok(key, s))
	}
	return l
}

// TestAllJoined holds all lists of two tokens of all sorts, and of three.
func TestAllJoined(t *testing.T) {
	for _, x := range some() {
		holdJoined(t, []api.Token{x})
		for _, y := range some() {
			holdJoined(t, []api.Token{x, y})
			for _, z := range some() {
				holdJoined(t, []api.Token{x, y, z})
			}
		}
	}
}

// TestAdditionalBlanks puts blanks between tokens, before and after them: only their places change, by so many bytes as were put there.
func TestAdditionalBlanks(t *testing.T) {
	blanks := []string{"", " ", "\t", "\n", "\r", "\r\n \t", " // c\n", " //\n//\"\n", "\n// _ 07 \xff \"\\a\n", "// c\n"}
	valid(t, func(m maker, s string, l []api.Token) {
		var all strings.Builder
		var want []api.Token
		from := 0
		for _, x := range l {
			all.WriteString(s[from:x.At])
			blank := blanks[m.r.Intn(len(blanks))]
			// A / with a comment directly behind it would be the comment's beginning.
			if strings.HasSuffix(all.String(), "/") {
				all.WriteString(" ")
			}
			all.WriteString(blank)
			from = x.At
			want = append(want, at(all.Len(), x))
		}
		all.WriteString(s[from:])
		all.WriteString([]string{"", " ", "\n", " // the end", "\r\n\t", " //"}[m.r.Intn(6)])
		if all.Len() <= 20000 {
			holdLex(t, all.String(), want...)
		}
		if t.Failed() {
			t.FailNow()
		}
	})
}

// TestPlaces holds that places ascend, that each token stands at its place as it is spelt, and that there are only blanks between.
func TestPlaces(t *testing.T) {
	p := newPlain()
	hold := func(s string, l []api.Token) {
		behind, last := 0, -1
		for _, x := range l {
			spelt, err := lexer.Spell(x)
			if err != api.OK || x.At <= last || x.At < behind || !strings.HasPrefix(s[x.At:], spelt) {
				t.Fatalf("%s: %+v behind %d, %d, spelt %s, error %d", short(s), x, last, behind, short(spelt), err)
			}
			if between := s[behind:x.At]; p.blanks.FindString(between) != between {
				t.Fatalf("%s: %s is no blank", short(s), short(between))
			}
			last = x.At
			behind = x.At + len(spelt)
		}
		if rest := s[behind:]; p.blanks.FindString(rest) != rest {
			t.Fatalf("%s: %s is no blank", short(s), short(rest))
		}
	}
	valid(t, func(_ maker, s string, l []api.Token) { hold(s, l) })
	allSmall(func(s string) {
		if l, f := lexer.Lex([]byte(s)); f.Err == api.OK {
			hold(s, l)
		}
	})
}

// TestTokensOfKinds holds that Lex returns tokens of all kinds, each with the text or the number that it may have.
func TestTokensOfKinds(t *testing.T) {
	seen := map[int]int{}
	valid(t, func(_ maker, s string, l []api.Token) {
		for _, x := range l {
			seen[x.Kind]++
			number := x.Kind == whole || x.Kind == real
			if number && x.Text != "" || !number && x.N != 0 || x.N < 0 {
				t.Fatalf("%+v", x)
			}
		}
	})
	for kind := name; kind <= sign; kind++ {
		if seen[kind] < 500 {
			t.Errorf("%d tokens of the kind %d", seen[kind], kind)
		}
	}
	if len(seen) != 7 {
		t.Errorf("kinds: %v", seen)
	}
}
