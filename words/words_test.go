package words_test

import (
	"math"
	"slices"
	"strings"
	"testing"

	"chaperon/api"
	"chaperon/words"
)

// said is all that the calls say of a text.
type said struct {
	name, class, base, key bool
	kind                   int
}

// hold holds what is said of s, and its being a type, which follows from its kind, against what should be.
func hold(t *testing.T, s string, want said) {
	t.Helper()
	got := said{words.Name(s), words.Class(s), words.Base(s), words.Key(s), words.Kind(s)}
	if got != want {
		t.Errorf("%q: %+v, not %+v", s, got, want)
	}
	if words.Type(s) != (want.kind > 0) {
		t.Errorf("%q: type %t", s, words.Type(s))
	}
}

func holdNames(t *testing.T, l ...string) {
	t.Helper()
	for _, s := range l {
		hold(t, s, said{name: true})
	}
}

func holdClasses(t *testing.T, l ...string) {
	t.Helper()
	for _, s := range l {
		hold(t, s, said{class: true, kind: api.TypeClass})
	}
}

// holdNothing holds that texts are nothing at all.
func holdNothing(t *testing.T, l ...string) {
	t.Helper()
	for _, s := range l {
		hold(t, s, said{})
	}
}

// reserved returns the reserved words in their order, each written out.
func reserved() []string {
	return []string{
		"class", "def", "var", "main", "let", "if", "else", "while", "new", "none", "this", "super",
		"read", "print", "true", "false", "nan", "inf", "int", "real", "bool", "str", "unit", "len",
	}
}

// base is a base type, and its tag as a number.
type base struct {
	word string
	tag  int
}

func bases() []base {
	return []base{{"int", 1}, {"real", 2}, {"bool", 3}, {"str", 4}, {"unit", 5}}
}

func isBase(s string) bool {
	return slices.ContainsFunc(bases(), func(b base) bool { return b.word == s })
}

// P4.1

func TestNames(t *testing.T) {
	holdNames(t,
		"a", "z", "m", "x1", "x1Y", "aB", "aZ", "a0", "a9", "zz", "z09AZaz", "nothing", "camelCase", "a1b2C3", "aaa", "x000",
		"abcdefghijklmnopqrst", "aBCDEFGHIJKLMNOPQRST", "a1234567890123456789", "uvwxyz",
	)
}

func TestClassNames(t *testing.T) {
	holdClasses(t,
		"A", "Z", "M", "C", "Cat", "Cat2", "CAT", "A0", "A9", "Aa", "Az", "AZ", "Z09AZaz", "X1y", "C000",
		"Abcdefghijklmnopqrst", "ABCDEFGHIJKLMNOPQRST", "A1234567890123456789", "UVWXYZ",
	)
}

func TestDynamic(t *testing.T) {
	hold(t, "?", said{kind: 2})
	holdNothing(t, "??", "? ", " ?", "?a", "a?", "?A", "A?", "?int", "int?", "?\x00", "\x00?", "？", "@", ">", "!", "*", "¿")
}

// TestKindNumbers holds the numbers of kinds themselves.
func TestKindNumbers(t *testing.T) {
	for s, want := range map[string]int{"str": 1, "int": 1, "?": 2, "A": 3, "Str": 3, "a": 0, "len": 0, "": 0} {
		if n := words.Kind(s); n != want {
			t.Errorf("%q: kind %d, not %d", s, n, want)
		}
	}
}

// TestLengths holds texts of each length, of letters and digits of each kind, and of one letter throughout.
func TestLengths(t *testing.T) {
	holdNothing(t, "")
	for n := range 64 {
		for _, rest := range []string{"a", "Z", "0", "q7R"} {
			end := strings.Repeat(rest, n)[:n]
			small, capital := "x"+end, "X"+end
			if n < 20 {
				holdNames(t, small)
				holdClasses(t, capital)
			} else {
				holdNothing(t, small, capital)
			}
			holdNothing(t, "1"+end)
		}
	}
	holdNothing(t, strings.Repeat("a", 21), strings.Repeat("A", 21), strings.Repeat("1", 20), strings.Repeat("1", 21), strings.Repeat("a", 20+256), strings.Repeat("A", 1+256), strings.Repeat("A", 1<<16+1))
}

// TestBytesBeside puts bytes that are neither letters nor digits, though just beside them, at each place.
func TestBytesBeside(t *testing.T) {
	for _, c := range []byte{'a' - 1, 'z' + 1, 'A' - 1, 'Z' + 1, '0' - 1, '9' + 1} {
		b := string([]byte{c})
		holdNothing(t, b, b+"a", "a"+b, b+"A", "A"+b, b+"0", "a"+b+"a", "A"+b+"A", "int"+b, b+"int", b+b)
		for i := range 19 {
			rest := strings.Repeat("b", i) + b + strings.Repeat("B", 18-i)
			holdNothing(t, "a"+rest, "A"+rest)
		}
	}
}

// want works out what should be said of a text of at most 20 bytes that is longer than 0.
func want(s string) said {
	for _, c := range []byte(s) {
		if !strings.Contains(small+capital+digits, string([]byte{c})) {
			if s == "?" {
				return said{kind: 2}
			}
			return said{}
		}
	}
	w := said{
		class: strings.Contains(capital, s[:1]),
		base:  isBase(s),
		key:   slices.Contains(reserved(), s),
	}
	w.name = strings.Contains(small, s[:1]) && !w.key
	if w.base {
		w.kind = 1
	} else if w.class {
		w.kind = 3
	}
	return w
}

const (
	small   = "abcdefghijklmnopqrstuvwxyz"
	capital = "ABCDEFGHIJKLMNOPQRSTUVWXYZ"
	digits  = "0123456789"
)

// TestAllShort asks of all texts of one and of two bytes.
func TestAllShort(t *testing.T) {
	for c := range 256 {
		s := string([]byte{byte(c)})
		hold(t, s, want(s))
		for d := range 256 {
			s := string([]byte{byte(c), byte(d)})
			hold(t, s, want(s))
		}
	}
}

// TestEachPlace puts each byte at each place of a name and of a class name, of 20 letters each.
func TestEachPlace(t *testing.T) {
	for _, s := range []string{"abcdefghijKLMNO12345", "Abcdefghijklmno12345"} {
		for i := range len(s) {
			for c := range 256 {
				x := s[:i] + string([]byte{byte(c)}) + s[i+1:]
				hold(t, x, want(x))
			}
		}
	}
}

func TestReservedAreNoNames(t *testing.T) {
	for _, s := range reserved() {
		w := said{key: true}
		if isBase(s) {
			w.base, w.kind = true, 1
		}
		hold(t, s, w)
	}
}

// TestNearlyReserved changes each reserved word a little: with a letter or a digit behind it it is a name, with a capital a class name.
func TestNearlyReserved(t *testing.T) {
	for _, s := range reserved() {
		first, rest := s[:1], s[1:]
		holdNames(t, s+"x", s+"0", s+"S", s+s, "x"+s, first+strings.ToUpper(rest), first+rest+rest)
		holdClasses(t, strings.ToUpper(first)+rest, strings.ToUpper(s), "X"+s)
		holdNothing(t, "0"+s, s+" ", " "+s, s+"\n", s+"\x00", "\x00"+s, s+"_", s+"?", s+"\xff", s+":", s+"(")
		for i := 1; i < len(s); i++ {
			for _, part := range []string{s[:i], s[i:]} {
				hold(t, part, want(part))
			}
		}
	}
}

// TestBlanks holds texts with blanks, two reserved words with one between them above all: words are not looked for in a line of them.
func TestBlanks(t *testing.T) {
	l := reserved()
	for i, s := range l {
		for _, blank := range []string{" ", "  ", "\t", "\n", "\r", "\u00a0"} {
			holdNothing(t, s+blank, blank+s, blank+s+blank)
			for _, other := range l {
				holdNothing(t, s+blank+other)
			}
			if i > 0 {
				holdNothing(t, l[i-1]+blank+s, strings.Join(l[:i+1], blank))
			}
		}
	}
	holdNothing(t, " ", "  ", "\t", "\n", "a b", "A B", "a ", " a", "A ", " A", "a\nb", "a\tb", "a\r", "Cat dog")
}

// TestBeyondASCII holds texts with letters, digits and signs beyond ASCII, whole or cut.
func TestBeyondASCII(t *testing.T) {
	for _, c := range []string{
		"é", "É", "ä", "ß", "ÿ", "ł", "я", "Я", "α", "Ω", "ａ", "Ａ", "０", "９", "٣", "²", "½", "ª", "º", "\u212a", "ſ", "İ", "ı", "中", "𝐚", "𝐀", "\u0301", "\u200b", "\ufeff", "\ufffd",
		"\x80", "\xc3", "\xe1", "\xc1", "\xb0", "\xff", "\xfe", "\xc3\x28", "\xed\xa0\x80",
	} {
		holdNothing(t, c, "a"+c, "A"+c, c+"a", c+"A", "a"+c+"b", "A"+c+"b", "1"+c, "int"+c, c+"int", "i"+c+"nt")
	}
}

func TestWrongTexts(t *testing.T) {
	holdNothing(t,
		"", "0", "9", "1", "2C", "2c", "0x", "007", "1a", "9Z", "a_b", "_", "_a", "A_", "a-b", "-a", "a.b", "a,b", "a:int", "C<int>", "[]int", "*A", "$a", "a'", `"a"`, "a;", "()", "{}",
		"a\x00", "\x00", "\x00a", "A\x00B", "a\x7f", "A\x1f",
	)
}

// P4.2

func TestTag(t *testing.T) {
	for _, b := range bases() {
		if n, e := words.Tag(b.word); n != b.tag || e != api.OK {
			t.Errorf("%s: %d, error %d", b.word, n, e)
		}
		if s, e := words.OfTag(b.tag); s != b.word || e != api.OK {
			t.Errorf("%d: %q, error %d", b.tag, s, e)
		}
	}
	for s, want := range map[string]int{"int": api.TagInt, "real": api.TagReal, "bool": api.TagBool, "str": api.TagStr, "unit": api.TagUnit} {
		if n, _ := words.Tag(s); n != want {
			t.Errorf("%s: %d", s, n)
		}
	}
}

func TestTagOfNone(t *testing.T) {
	l := []string{
		"", " ", "?", "A", "Int", "INT", "iNt", "Real", "Bool", "Str", "Unit", "in", "nt", "i", "ints", "intint", "int ", " int", "int real", "int\x00", "\x00int", "int\n", "real bool str",
		"string", "float", "boolean", "void", "null", "none", "object", "obj", "any", "len", "class", "true", "nan", "1", "5", "a", strings.Repeat("int", 7), "ınt", "\xff",
	}
	for _, s := range reserved() {
		if !isBase(s) {
			l = append(l, s)
		}
	}
	for _, s := range l {
		if n, e := words.Tag(s); n != 0 || e != api.ErrType {
			t.Errorf("%q: %d, error %d", s, n, e)
		}
	}
}

func TestOfTagOfNone(t *testing.T) {
	l := []int{api.TagNull, api.TagObj, math.MinInt, math.MinInt + 1, math.MinInt + 5, math.MaxInt, math.MaxInt - 1, -1 << 63, 1<<63 - 1}
	for n := -300; n <= 300; n++ {
		if n < 1 || n > 5 {
			l = append(l, n)
		}
	}
	// What is a tag of a base type only by its last bits.
	for _, high := range []int{1 << 8, 1 << 16, 1 << 32, 1 << 62, math.MinInt} {
		for n := range 8 {
			l = append(l, high+n)
		}
	}
	for _, n := range l {
		if s, e := words.OfTag(n); s != "" || e != api.ErrType {
			t.Errorf("%d: %q, error %d", n, s, e)
		}
	}
}

func TestReserved(t *testing.T) {
	got := words.Reserved()
	if !slices.Equal(got, reserved()) {
		t.Errorf("%q", got)
	}
	if len(got) != 24 {
		t.Errorf("%d words", len(got))
	}
}

// TestReservedChanged changes a list, and what it has to spare: no other list, and nothing that is said, changes.
func TestReservedChanged(t *testing.T) {
	held := words.Reserved()
	for range 2 {
		changed := words.Reserved()
		changed = changed[:cap(changed)]
		for i := range changed {
			changed[i] = "x"
		}
		if l := words.Reserved(); !slices.Equal(l, reserved()) || !slices.Equal(held, reserved()) {
			t.Errorf("%q, %q", l, held)
		}
	}
	_ = append(words.Reserved()[:0], "a", "b")
	_ = append(words.Reserved(), "y")
	TestReserved(t)
	TestReservedAreNoNames(t)
	hold(t, "x", said{name: true})
	hold(t, "y", said{name: true})
	TestTag(t)
}
