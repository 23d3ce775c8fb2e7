package lexer_test

import (
	"math/big"
	"math/rand"
	"regexp"
	"slices"
	"strings"
	"testing"

	"chaperon/api"
	"chaperon/lexer"
)

// plain is a second reading of the chapter: what it says of each sort of token, as a pattern.
type plain struct {
	blanks, word, number, text, sign *regexp.Regexp
}

func newPlain() plain {
	var l []string
	for _, s := range signs() {
		l = append(l, regexp.QuoteMeta(s))
	}
	return plain{
		blanks: regexp.MustCompile(`^(?:[ \t\n\r]|//[^\n]*)*`),
		word:   regexp.MustCompile(`^[a-zA-Z][a-zA-Z0-9]*`),
		number: regexp.MustCompile(`^([0-9]+)(r?)([a-zA-Z0-9]?)`),
		text:   regexp.MustCompile(`^"((?:[ !#-\[\]-~]|\\["\\n])*)`),
		sign:   regexp.MustCompile(`^(?:` + strings.Join(l, "|") + `)`),
	}
}

// lex returns the tokens of a source, or its first fault.
func (p plain) lex(s string) ([]api.Token, api.Fault) {
	if len(s) > 20000 {
		return nil, api.Fault{Err: api.ErrLong, At: 20000}
	}
	var l []api.Token
	for place := 0; ; {
		place += len(p.blanks.FindString(s[place:]))
		if place == len(s) {
			return l, api.Fault{}
		}
		x, size, f := p.token(s[place:])
		if f.Err != api.OK {
			f.At += place
			return nil, f
		}
		l = append(l, at(place, x))
		place += size
	}
}

// token returns the token with which a text begins, and how many bytes it has.
func (p plain) token(s string) (api.Token, int, api.Fault) {
	if word := p.word.FindString(s); word != "" {
		return p.ofWord(word)
	}
	if number := p.number.FindStringSubmatch(s); number != nil {
		return p.ofNumber(number[1], number[2], number[3])
	}
	if inside := p.text.FindStringSubmatch(s); inside != nil {
		return p.ofText(inside[1], s[len(inside[0]):])
	}
	if found := p.sign.FindString(s); found != "" {
		return tok(sign, found), len(found), api.Fault{}
	}
	return api.Token{}, 0, api.Fault{Err: api.ErrForm}
}

func (p plain) ofWord(word string) (api.Token, int, api.Fault) {
	kind := class
	switch {
	case len(word) > 20:
		return api.Token{}, 0, api.Fault{Err: api.ErrLong}
	case slices.Contains(reserved(), word):
		kind = key
	case word[0] >= 'a':
		kind = name
	}
	return tok(kind, word), len(word), api.Fault{}
}

func (p plain) ofNumber(digits, r, behind string) (api.Token, int, api.Fault) {
	n, _ := new(big.Int).SetString(digits, 10)
	kind, most := whole, new(big.Int).SetUint64(1<<63-1)
	if r == "r" {
		kind, most = real, big.NewInt(1<<53)
	}
	size := len(digits) + len(r)
	switch {
	case n.Cmp(most) > 0, digits != n.String():
		return api.Token{}, 0, api.Fault{Err: api.ErrRange}
	case behind != "":
		return api.Token{}, 0, api.Fault{Err: api.ErrForm, At: size}
	}
	return num(kind, int(n.Int64())), size, api.Fault{}
}

// ofText is told what stands in a text, as far as it may, and what behind that.
func (p plain) ofText(inside, behind string) (api.Token, int, api.Fault) {
	found := contents(inside)
	wrong := 1 + len(inside)
	if strings.HasPrefix(behind, `\`) {
		behind = behind[1:]
		wrong++
	} else if strings.HasPrefix(behind, `"`) {
		if len(found) > 1000 {
			return api.Token{}, 0, api.Fault{Err: api.ErrLong}
		}
		return tok(text, found), len(inside) + 2, api.Fault{}
	}
	switch {
	case behind != "":
		return api.Token{}, 0, api.Fault{Err: api.ErrForm, At: wrong}
	case len(found) > 1000:
		return api.Token{}, 0, api.Fault{Err: api.ErrLong}
	}
	return api.Token{}, 0, api.Fault{Err: api.ErrForm}
}

// hold holds what is made of a source against the second reading, and returns the fault.
func (p plain) hold(t *testing.T, s string) api.Errno {
	t.Helper()
	want, wrong := p.lex(s)
	if l, f := lexer.Lex([]byte(s)); f != wrong || !slices.Equal(l, want) {
		t.Fatalf("%s: %v %v, and not %v %v", short(s), l, f, want, wrong)
	}
	return wrong.Err
}

// sources calls do with each source of at most so many of these parts.
func sources(parts []string, most int, do func(s string)) {
	var grow func(s string, n int)
	grow = func(s string, n int) {
		do(s)
		if n == most {
			return
		}
		for _, x := range parts {
			grow(s+x, n+1)
		}
	}
	grow("", 0)
}

// allSmall calls do with small sources: all of few bytes of each sort, more of those that go together.
func allSmall(do func(s string)) {
	for most, parts := range map[int]string{
		4:  "aCr019 \n\"\\n/&|=<!_",
		6:  "0r1 a",
		7:  "\"\\na\n",
		8:  "/\na",
		9:  "=<!",
		10: "&|",
	} {
		sources(strings.Split(parts, ""), most, do)
	}
}

// TestSmall holds the tokens of all small sources.
func TestSmall(t *testing.T) {
	p := newPlain()
	seen := map[api.Errno]int{}
	allSmall(func(s string) { seen[p.hold(t, s)]++ })
	if seen[api.OK] < 50000 || seen[api.ErrForm] < 50000 || seen[api.ErrRange] < 4000 {
		t.Errorf("the faults of the sources: %v", seen)
	}
}

// TestAllBytes holds the tokens of all sources of two bytes, alone and beside each sort of a token.
func TestAllBytes(t *testing.T) {
	p := newPlain()
	for c := range 256 {
		for d := range 256 {
			s := string([]byte{byte(c), byte(d)})
			for _, x := range []string{s, `"` + s, `"` + s + `"`, `"\` + s + `"`, "a" + s, "1" + s, "1r" + s, "=" + s, "//" + s + "1"} {
				p.hold(t, x)
			}
		}
	}
}

// parts returns parts of sources of all sorts, and what is nearly one.
func parts() []string {
	l := append(signs(), reserved()...)
	l = append(l, reserved()...)
	return append(l,
		" ", "\t", "\n", "\r", "// c\n", "//", "///\n", "// \"\\\n", " ", "\n", " ", " ", " ", " ",
		"a", "x1Y", "Cat2", "C", "r", "n", "abcdefghijklmnopqrst", "Abcdefghijklmnopqrst", "a1234567890",
		"0", "1", "12", "9", "0r", "12r", "9223372036854775807", "9007199254740992r", "922337203685477580", "900719925474099",
		`""`, `"a"`, `"a b"`, `"\n"`, `"\"\\"`, `"//"`, `"`+strings.Repeat("a", 1000)+`"`, `"`+strings.Repeat(`\"`, 999)+`"`,
	)
}

// wrongParts returns parts with faults.
func wrongParts() []string {
	return []string{
		"_", "&", "|", ">", "\x00", "\xff", "é", "'", "\\", `"`, `"a`, `"\`, `\n`, "\"\t", "\"\n\"", `"\a"`, `"` + strings.Repeat("b", 1001) + `"`, strings.Repeat("n", 1000), `"` + strings.Repeat("b", 1001),
		"00", "07", "12x", "1rr", "1r1", "9223372036854775808", "9007199254740993r", "1" + strings.Repeat("0", 30), "abcdefghijklmnopqrstu", "Abcdefghijklmnopqrstu",
	}
}

// maker makes sources by chance.
type maker struct{ r *rand.Rand }

// source makes a source of n parts, mostly parted by blanks, with few faults or none.
func (m maker) source(n int) string {
	good, wrong := parts(), wrongParts()
	var all strings.Builder
	blanks := m.r.Intn(3) > 0
	faulty := m.r.Intn(2) > 0
	for range n {
		if faulty && m.r.Intn(2*n+1) == 0 {
			all.WriteString(wrong[m.r.Intn(len(wrong))])
		} else {
			all.WriteString(good[m.r.Intn(len(good))])
		}
		if blanks {
			all.WriteString([]string{" ", "\n", "\t", "\r\n", " // c\n", "  "}[m.r.Intn(6)])
		}
	}
	return all.String()
}

// made calls do with many sources that are made by chance, always the same ones.
func made(do func(m maker, s string)) {
	m := maker{rand.New(rand.NewSource(11))}
	for i := range 20000 {
		do(m, m.source(i%37))
	}
	for range 30 {
		do(m, m.source(2500))
	}
}

// TestByChance holds the tokens of many sources, of some that are too long among them.
func TestByChance(t *testing.T) {
	p := newPlain()
	seen := map[api.Errno]int{}
	long := 0
	made(func(_ maker, s string) {
		seen[p.hold(t, s)]++
		if len(s) > 20000 {
			long++
		}
	})
	if seen[api.OK] < 5000 || seen[api.ErrForm] < 1000 || seen[api.ErrRange] < 500 || seen[api.ErrLong] < 500 || long < 10 {
		t.Errorf("the faults of the sources: %v, %d are too long", seen, long)
	}
}

// TestChangedByChance changes one byte of each source, or takes it away, or puts one there.
func TestChangedByChance(t *testing.T) {
	p := newPlain()
	bytes := "\"\\n/ \n0r1aA_&|=<!\t\x00\xff"
	made(func(m maker, s string) {
		if len(s) == 0 {
			return
		}
		i, k := m.r.Intn(len(s)), m.r.Intn(len(bytes))
		p.hold(t, s[:i]+s[i+1:])
		p.hold(t, s[:i]+bytes[k:k+1]+s[i+1:])
		p.hold(t, s[:i]+bytes[k:k+1]+s[i:])
		p.hold(t, s[:i])
	})
}

// TestSpellByChance holds that what is spelt is just what a source can have: each token of a source, and no token that is changed so that no source has it.
func TestSpellByChance(t *testing.T) {
	p := newPlain()
	could := func(x api.Token) bool {
		inside := escaped(x.Text)
		n := big.NewInt(int64(x.N)).String()
		for _, s := range []string{x.Text, `"` + inside + `"`, n, n + "r"} {
			if l, _ := p.lex(s); len(l) == 1 && l[0] == at(0, x) {
				return true
			}
		}
		return false
	}
	is, none := 0, 0
	made(func(m maker, s string) {
		l, _ := p.lex(s)
		for i, x := range l[:min(len(l), 3)] {
			y := l[m.r.Intn(len(l))]
			changed := []api.Token{x, x, x, x, x, x}
			changed[1].Kind = y.Kind
			changed[2].Text = y.Text
			changed[3].N = y.N + m.r.Intn(3) - 1
			changed[4].Text += parts()[m.r.Intn(60)]
			changed[5].Kind, changed[5].Text = 1+i%7, y.Text
			for _, x := range changed {
				s, err := lexer.Spell(x)
				can := could(x)
				if can {
					is++
					holdLex(t, s, at(0, x))
				} else {
					none++
				}
				if (err == api.OK) != can || err != api.OK && s != "" {
					t.Fatalf("%+v: %s, error %d", x, short(s), err)
				}
			}
		}
	})
	if is < 30000 || none < 30000 {
		t.Errorf("%d are tokens, %d are none", is, none)
	}
}

// TestAgain holds that a call returns the same whenever it is made.
func TestAgain(t *testing.T) {
	made(func(_ maker, s string) {
		l, f := lexer.Lex([]byte(s))
		joined, _ := lexer.Join(l)
		for range 2 {
			again, g := lexer.Lex([]byte(s))
			if !slices.Equal(again, l) || g != f {
				t.Fatalf("%s: not the same again", short(s))
			}
			if s, _ := lexer.Join(l); s != joined {
				t.Fatalf("%s: not joined as before", short(s))
			}
		}
	})
}
