package lexer_test

import (
	"bytes"
	"math"
	"slices"
	"strconv"
	"strings"
	"testing"

	"chaperon/api"
	"chaperon/lexer"
)

// The kinds of tokens, each as a number.
const (
	name  = 1
	class = 2
	key   = 3
	whole = 4
	real  = 5
	text  = 6
	sign  = 7
)

// tok is a token of a text, at byte 0.
func tok(kind int, s string) api.Token { return api.Token{Kind: kind, Text: s} }

// num is a token of a number, at byte 0.
func num(kind, n int) api.Token { return api.Token{Kind: kind, N: n} }

// at is a token that begins at a byte.
func at(place int, x api.Token) api.Token {
	x.At = place
	return x
}

// short cuts a long text off, so that it can be told.
func short(s string) string {
	if len(s) > 60 {
		return strconv.Quote(s[:60]) + ".. (" + strconv.Itoa(len(s)) + " bytes)"
	}
	return strconv.Quote(s)
}

// escaped returns the contents of a text as they stand in a source.
func escaped(s string) string {
	var all strings.Builder
	for _, c := range []byte(s) {
		switch c {
		case '\n':
			all.WriteString(`\n`)
		case '"', '\\':
			all.WriteString(`\` + string(rune(c)))
		default:
			all.WriteByte(c)
		}
	}
	return all.String()
}

// contents returns the contents of a text that stands in a source.
func contents(s string) string {
	return strings.NewReplacer(`\\`, `\`, `\"`, `"`, `\n`, "\n").Replace(s)
}

// holdLex holds the tokens of a source, with their places.
func holdLex(t *testing.T, s string, want ...api.Token) {
	t.Helper()
	if l, f := lexer.Lex([]byte(s)); f != (api.Fault{}) || !slices.Equal(l, want) {
		t.Errorf("%s: %d tokens %+v, %+v, and not %d %+v", short(s), len(l), l[:min(len(l), 20)], f, len(want), want[:min(len(want), 20)])
	}
}

// holdOne holds that a source is one token, wherever it stands.
func holdOne(t *testing.T, s string, want api.Token) {
	t.Helper()
	holdLex(t, s, want)
	holdLex(t, " "+s, at(1, want))
	holdLex(t, "\n//\n"+s+"\t ", at(4, want))
	holdLex(t, ";"+s+";", tok(sign, ";"), at(1, want), at(1+len(s), tok(sign, ";")))
}

// holdFault holds the fault of a source, and that nothing else is returned.
func holdFault(t *testing.T, s string, err api.Errno, place int) {
	t.Helper()
	if l, f := lexer.Lex([]byte(s)); len(l) != 0 || f != (api.Fault{Err: err, At: place}) {
		t.Errorf("%s: %d tokens, %+v, and not error %d at %d", short(s), len(l), f, err, place)
	}
}

// holdFaulty holds a fault with tokens and blanks before and after it.
func holdFaulty(t *testing.T, s string, err api.Errno, place int) {
	t.Helper()
	for _, before := range []string{"", " ", "x ", "\"a\" 12;", "// c\n", "/ /\t12r;C\r{"} {
		holdFault(t, before+s, err, len(before)+place)
	}
}

// holdSpell holds how a token is spelt, wherever it stands, and that it is read back.
func holdSpell(t *testing.T, x api.Token, want string) {
	t.Helper()
	for _, place := range []int{0, 1, 7, 19999, 20000, 1 << 40, -1, math.MinInt, math.MaxInt} {
		if s, err := lexer.Spell(at(place, x)); s != want || err != api.OK {
			t.Errorf("%d %s %d at %d: %s, error %d, and not %s", x.Kind, short(x.Text), x.N, place, short(s), err, short(want))
		}
	}
	holdOne(t, want, x)
}

// holdNone holds that something is no token.
func holdNone(t *testing.T, l ...api.Token) {
	t.Helper()
	for _, x := range l {
		for _, place := range []int{0, 5, -1} {
			if s, err := lexer.Spell(at(place, x)); s != "" || err != api.ErrForm {
				t.Errorf("%d %s %d at %d: %s, error %d", x.Kind, short(x.Text), x.N, place, short(s), err)
			}
		}
	}
}

// holdJoin holds how tokens are joined.
func holdJoin(t *testing.T, l []api.Token, want string, wrong api.Errno) {
	t.Helper()
	if s, err := lexer.Join(l); s != want || err != wrong {
		t.Errorf("%d tokens: %s, error %d, and not %s, error %d", len(l), short(s), err, short(want), wrong)
	}
}

// reserved returns the reserved words.
func reserved() []string {
	return []string{
		"class", "def", "var", "main", "let", "if", "else", "while", "new", "none", "this", "super",
		"read", "print", "true", "false", "nan", "inf", "int", "real", "bool", "str", "unit", "len",
	}
}

// signs returns the signs.
func signs() []string {
	return []string{
		"&&", "||", "==", "!=", "<=",
		"{", "}", "(", ")", ":", ";", ",", ".", "=", "<", "+", "-", "*", "/", "%", "!", "?",
	}
}

// The chapter's examples

func TestExamplesLex(t *testing.T) {
	holdLex(t, "if x<=12r{C}", tok(key, "if"), at(3, tok(name, "x")), at(4, tok(sign, "<=")), at(6, num(real, 12)), at(9, tok(sign, "{")), at(10, tok(class, "C")), at(11, tok(sign, "}")))
	holdLex(t, `"a\n\"b" // c`, tok(text, "a\n\"b"))
	holdLex(t, "1 2", num(whole, 1), at(2, num(whole, 2)))
	holdLex(t, "")
	holdFault(t, "12x", api.ErrForm, 2)
	holdFault(t, "07", api.ErrRange, 0)
	holdFault(t, `"a`, api.ErrForm, 0)
	holdFault(t, `"\a"`, api.ErrForm, 2)
	holdFault(t, "a & b", api.ErrForm, 2)
	holdFault(t, "9223372036854775808", api.ErrRange, 0)
	holdFault(t, "_", api.ErrForm, 0)
}

func TestExamplesSpell(t *testing.T) {
	holdSpell(t, num(real, 3), "3r")
	holdSpell(t, tok(text, `a"`), `"a\""`)
	holdNone(t, tok(name, "if"))
	holdJoin(t, []api.Token{tok(name, "x"), tok(sign, "="), num(whole, 1)}, "x = 1", api.OK)
}

// TestNumbersOfKinds holds the numbers of kinds and errors themselves.
func TestNumbersOfKinds(t *testing.T) {
	l := []int{api.TokName, api.TokClass, api.TokKey, api.TokInt, api.TokReal, api.TokStr, api.TokSign}
	if !slices.Equal(l, []int{name, class, key, whole, real, text, sign}) {
		t.Error(l)
	}
	if e := []api.Errno{api.ErrRange, api.ErrLong, api.ErrForm}; !slices.Equal(e, []api.Errno{3, 4, 5}) {
		t.Error(e)
	}
}

// P11.1: words

func TestNames(t *testing.T) {
	for _, s := range []string{"a", "z", "m", "r", "n", "x1", "x1Y", "aZ09zA", "nothing", "camelCase", "r2", "e10", "abcdefghijklmnopqrst", "a1234567890123456789", "zZZZZZZZZZZZZZZZZZZZ"} {
		holdOne(t, s, tok(name, s))
	}
}

func TestClasses(t *testing.T) {
	for _, s := range []string{"A", "Z", "M", "R", "C", "Cat2", "CAT", "A0", "Z09azAZ", "Abcdefghijklmnopqrst", "A1234567890123456789", "ZZZZZZZZZZZZZZZZZZZZ"} {
		holdOne(t, s, tok(class, s))
	}
}

// TestReserved holds the reserved words, and words that are nearly so.
func TestReserved(t *testing.T) {
	for _, s := range reserved() {
		holdOne(t, s, tok(key, s))
		upper := strings.ToUpper(s[:1]) + s[1:]
		for _, near := range []string{s + "x", s + "X", s + "0", "x" + s, s + s, s + "class", s[:1] + strings.ToUpper(s[1:])} {
			holdOne(t, near, tok(name, near))
		}
		for _, near := range []string{upper, strings.ToUpper(s), "X" + s} {
			holdOne(t, near, tok(class, near))
		}
		holdLex(t, s+" "+s, tok(key, s), at(len(s)+1, tok(key, s)))
		holdLex(t, s+"+"+upper, tok(key, s), at(len(s), tok(sign, "+")), at(len(s)+1, tok(class, upper)))
	}
}

// TestLengthsOfWords holds words of each length, of letters and digits of each kind.
func TestLengthsOfWords(t *testing.T) {
	for n := range 64 {
		for _, rest := range []string{"a", "Z", "0", "r", "q7R"} {
			end := strings.Repeat(rest, n)[:n]
			small, capital := "x"+end, "X"+end
			if n < 20 {
				holdOne(t, small, tok(name, small))
				holdOne(t, capital, tok(class, capital))
				continue
			}
			for _, behind := range []string{"", " ", "_", "\"", "\xff", "(", "//"} {
				holdFaulty(t, small+behind, api.ErrLong, 0)
				holdFaulty(t, capital+behind, api.ErrLong, 0)
			}
		}
	}
	holdFaulty(t, strings.Repeat("a", 19000), api.ErrLong, 0)
	holdFaulty(t, "class"+strings.Repeat("s", 16), api.ErrLong, 0)
	holdLex(t, strings.Repeat("a", 20)+" "+strings.Repeat("b", 20), tok(name, strings.Repeat("a", 20)), at(21, tok(name, strings.Repeat("b", 20))))
}

// TestWordsAndDigits holds that a digit within a word belongs to it.
func TestWordsAndDigits(t *testing.T) {
	holdLex(t, "a1 1", tok(name, "a1"), at(3, num(whole, 1)))
	holdLex(t, "a12r", tok(name, "a12r"))
	holdLex(t, "a.1", tok(name, "a"), at(1, tok(sign, ".")), at(2, num(whole, 1)))
	holdLex(t, "a\"1\"b", tok(name, "a"), at(1, tok(text, "1")), at(4, tok(name, "b")))
}

// P11.1: numbers

func TestInts(t *testing.T) {
	for s, n := range map[string]int{
		"0": 0, "1": 1, "2": 2, "7": 7, "8": 8, "9": 9, "10": 10, "12": 12, "90": 90, "99": 99, "100": 100, "1000000": 1000000,
		"2147483647": 1<<31 - 1, "2147483648": 1 << 31, "4294967295": 1<<32 - 1, "4294967296": 1 << 32, "9007199254740991": 1<<53 - 1, "9007199254740992": 1 << 53, "9007199254740993": 1<<53 + 1,
		"999999999999999999": 999999999999999999, "1000000000000000000": 1000000000000000000, "9223372036854775800": 1<<63 - 8, "9223372036854775806": 1<<63 - 2, "9223372036854775807": 1<<63 - 1,
	} {
		holdSpell(t, num(whole, n), s)
	}
	for i := range 63 {
		for _, n := range []int{1 << i, 1<<i - 1, 1<<i + 1, 3 << i & math.MaxInt} {
			holdSpell(t, num(whole, n), strconv.Itoa(n))
		}
	}
}

func TestReals(t *testing.T) {
	for s, n := range map[string]int{
		"0r": 0, "1r": 1, "2r": 2, "9r": 9, "10r": 10, "12r": 12, "100r": 100, "2147483648r": 1 << 31, "4294967296r": 1 << 32,
		"1000000000000000r": 1000000000000000, "9007199254740990r": 1<<53 - 2, "9007199254740991r": 1<<53 - 1, "9007199254740992r": 1 << 53,
	} {
		holdSpell(t, num(real, n), s)
	}
	for i := range 54 {
		holdSpell(t, num(real, 1<<i), strconv.Itoa(1<<i)+"r")
		holdSpell(t, num(real, 1<<i-1), strconv.Itoa(1<<i-1)+"r")
	}
}

// tooLarge returns numbers that no int is; wrapped around, some of them would be.
func tooLarge() []string {
	return []string{
		"9223372036854775808", "9223372036854775809", "9223372036854775810", "9223372036854775817", "9300000000000000000", "9999999999999999999", "10000000000000000000", "10223372036854775807",
		"18446744073709551615", "18446744073709551616", "18446744073709551617", "18446744073709551628", "27670116110564327424", "36893488147419103233", "92233720368547758070", "100000000000000000000",
		"340282366920938463463374607431768211456", "340282366920938463463374607431768211457", "1" + strings.Repeat("0", 64), "1" + strings.Repeat("0", 400), strings.Repeat("9", 5000), "1" + strings.Repeat("0", 19000),
	}
}

func TestTooLarge(t *testing.T) {
	for _, s := range tooLarge() {
		for _, behind := range []string{"", " ", "r", "x", "rx", "r0", "_", ";", "\"", "X", "r ", "&"} {
			holdFaulty(t, s+behind, api.ErrRange, 0)
		}
	}
	for _, s := range []string{"9007199254740993", "9007199254740994", "9007199254741000", "9007199254750000", "9100000000000000", "9999999999999999", "10000000000000000", "18014398509481984", "9223372036854775807"} {
		n, _ := strconv.Atoi(s)
		holdOne(t, s, num(whole, n))
		for _, behind := range []string{"r", "r ", "rx", "r0", "rr", "rR", "r_", "r.1"} {
			holdFaulty(t, s+behind, api.ErrRange, 0)
		}
		holdFaulty(t, s+"x", api.ErrForm, len(s))
		holdFaulty(t, s+"R", api.ErrForm, len(s))
	}
}

// TestUnnecessary0 holds numbers with a 0 ahead of another digit, which is told ahead of what stands behind them.
func TestUnnecessary0(t *testing.T) {
	for _, s := range []string{"00", "01", "07", "09", "000", "001", "010", "0100", "00000000000000000001", strings.Repeat("0", 1000), "09223372036854775807", "09223372036854775808", "099999999999999999999"} {
		for _, behind := range []string{"", " ", "r", "x", "rx", "R", "r1", "_", ".5", "\xff"} {
			holdFaulty(t, s+behind, api.ErrRange, 0)
		}
	}
	holdLex(t, "0 0", num(whole, 0), at(2, num(whole, 0)))
	holdLex(t, "0+0r", num(whole, 0), at(1, tok(sign, "+")), at(2, num(real, 0)))
	holdLex(t, "0.0", num(whole, 0), at(1, tok(sign, ".")), at(2, num(whole, 0)))
}

// TestBehindNumbers holds what may stand directly behind a number, and what may not.
func TestBehindNumbers(t *testing.T) {
	for _, s := range []string{"0", "1", "5", "10", "123", "9007199254740992"} {
		n, _ := strconv.Atoi(s)
		for c := range 256 {
			b := string([]byte{byte(c)})
			switch {
			case '0' <= c && c <= '9':
				holdFaulty(t, s+"r"+b, api.ErrForm, len(s)+1)
			case 'a' <= c && c <= 'z', 'A' <= c && c <= 'Z':
				if c != 'r' {
					holdFaulty(t, s+b, api.ErrForm, len(s))
					holdFaulty(t, s+b+b, api.ErrForm, len(s))
				}
				holdFaulty(t, s+"r"+b, api.ErrForm, len(s)+1)
			case strings.ContainsRune("{}():;,.=<+-*/%!?", rune(c)):
				holdLex(t, s+b, num(whole, n), at(len(s), tok(sign, b)))
				holdLex(t, s+"r"+b, num(real, n), at(len(s)+1, tok(sign, b)))
			case c == ' ' || c == '\t' || c == '\n' || c == '\r':
				holdLex(t, s+b+"1", num(whole, n), at(len(s)+1, num(whole, 1)))
				holdLex(t, s+b+"r", num(whole, n), at(len(s)+1, tok(name, "r")))
				holdLex(t, s+"r"+b+"1", num(real, n), at(len(s)+2, num(whole, 1)))
			default:
				holdFaulty(t, s+b, api.ErrForm, len(s))
				holdFaulty(t, s+"r"+b, api.ErrForm, len(s)+1)
			}
		}
	}
	holdLex(t, `1"a"2r"b"`, num(whole, 1), at(1, tok(text, "a")), at(4, num(real, 2)), at(6, tok(text, "b")))
	holdLex(t, "1//2\n3r//x", num(whole, 1), at(5, num(real, 3)))
	holdLex(t, "-1", tok(sign, "-"), at(1, num(whole, 1)))
	holdLex(t, "-9223372036854775807", tok(sign, "-"), at(1, num(whole, 1<<63-1)))
	holdFaulty(t, "-9223372036854775808", api.ErrRange, 1)
	for _, s := range []string{"1e5", "0x1F", "1_000", "1if", "2class", "1N", "0b1", "0o7"} {
		holdFaulty(t, s, api.ErrForm, 1)
	}
	holdFaulty(t, "1r5", api.ErrForm, 2)
	holdFaulty(t, "1real", api.ErrForm, 2)
}

// P11.1: texts

// plainBytes returns the bytes that stand in a text as they are.
func plainBytes() string {
	var b []byte
	for c := byte(32); c <= 126; c++ {
		if c != 34 && c != 92 {
			b = append(b, c)
		}
	}
	return string(b)
}

func TestTexts(t *testing.T) {
	for s, want := range map[string]string{
		`""`: "", `"a"`: "a", `" "`: " ", `"  a  "`: "  a  ", `"~"`: "~", `"!"`: "!", `"#"`: "#", `"["`: "[", `"]"`: "]", `"n"`: "n", `"//"`: "//", `"// c"`: "// c", `"/"`: "/", `"12r"`: "12r", `"if"`: "if", `"'"`: "'",
		`"\n"`: "\n", `"\\"`: "\\", `"\""`: "\"", `"\\n"`: "\\n", `"\\\n"`: "\\\n", `"\\\\n"`: "\\\\n", `"\"\""`: "\"\"", `"\\\""`: "\\\"", `"\n\n"`: "\n\n", `"a\nb"`: "a\nb", `"\na"`: "\na", `"nn\nn"`: "nn\nn", `"\\\\"`: "\\\\",
	} {
		holdSpell(t, tok(text, want), s)
	}
	holdSpell(t, tok(text, plainBytes()), `"`+plainBytes()+`"`)
	holdLex(t, `"a""b"`, tok(text, "a"), at(3, tok(text, "b")))
	holdLex(t, `""""`, tok(text, ""), at(2, tok(text, "")))
	holdLex(t, `"\"""\\"`, tok(text, `"`), at(4, tok(text, `\`)))
	holdLex(t, `"//"//"`, tok(text, "//"))
	holdLex(t, `x"if"if`, tok(name, "x"), at(1, tok(text, "if")), at(5, tok(key, "if")))
}

// TestBytesOfTexts puts each byte into a text, and behind a \.
func TestBytesOfTexts(t *testing.T) {
	escapes := map[byte]string{'"': `"`, '\\': `\`, 'n': "\n"}
	for i := range 256 {
		c := byte(i)
		b := string([]byte{c})
		for _, before := range []string{"", "a", `\\`, `\"`, `\n`, "//", "ab cd"} {
			inside := 1 + len(before)
			want := contents(before)
			if strings.Contains(plainBytes(), b) {
				holdLex(t, `"`+before+b+`z"`, tok(text, want+b+"z"))
			} else if c != '"' && c != '\\' {
				for _, behind := range []string{`z"`, "", "z", `"`, `\`, b} {
					holdFaulty(t, `"`+before+b+behind, api.ErrForm, inside)
				}
			}
			if escape, is := escapes[c]; is {
				holdLex(t, `"`+before+`\`+b+`z"`, tok(text, want+escape+"z"))
				continue
			}
			for _, behind := range []string{`z"`, "", "z", `"`, `\`, b} {
				holdFaulty(t, `"`+before+`\`+b+behind, api.ErrForm, inside+1)
			}
		}
	}
}

// TestNoEnd holds texts without an end.
func TestNoEnd(t *testing.T) {
	for _, s := range []string{`"`, `"a`, `"a b`, `"\`, `"\"`, `"\\`, `"\\\`, `"\\\"`, `"\n`, `"a\`, `"a // b`, `"12r;`, `"` + strings.Repeat("a", 1000), `"` + strings.Repeat("a", 1000) + `\`, `"` + strings.Repeat(`\"`, 1000)} {
		holdFaulty(t, s, api.ErrForm, 0)
	}
	holdFault(t, `"a" "`, api.ErrForm, 4)
	holdFault(t, `"""`, api.ErrForm, 2)
	holdFault(t, `"a"b"`, api.ErrForm, 4)
	// A text does not go on in the next line.
	holdFaulty(t, "\"a\nb\"", api.ErrForm, 2)
	holdFaulty(t, "\"a\r\nb\"", api.ErrForm, 2)
	holdFaulty(t, "\"a\\\nb\"", api.ErrForm, 3)
}

// TestLengthsOfTexts holds that the contents count, and not what stands in the source.
func TestLengthsOfTexts(t *testing.T) {
	for _, s := range []string{"a", " ", "/", `\n`, `\\`, `\"`} {
		one := contents(s)
		for _, n := range []int{0, 1, 255, 256, 500, 501, 998, 999, 1000} {
			holdOne(t, `"`+strings.Repeat(s, n)+`"`, tok(text, strings.Repeat(one, n)))
		}
		for _, n := range []int{1001, 1002, 1024, 1256, 2000, 9000} {
			holdFaulty(t, `"`+strings.Repeat(s, n)+`"`, api.ErrLong, 0)
			holdFaulty(t, `"`+strings.Repeat(s, n)+`" "`, api.ErrLong, 0)
		}
		holdOne(t, `"`+strings.Repeat("b", 999)+s+`"`, tok(text, strings.Repeat("b", 999)+one))
		holdFaulty(t, `"`+strings.Repeat("b", 1000)+s+`"`, api.ErrLong, 0)
	}
}

// TestOrderInTexts holds that a wrong byte is told first, wherever it stands; that a text is too long ahead of its having no end, as the promise names them.
func TestOrderInTexts(t *testing.T) {
	for _, n := range []int{999, 1000, 1001, 1002, 3000} {
		long := strings.Repeat("a", n)
		for _, wrong := range []string{"\t", "\n", "\x7f", "\x80", "\x00"} {
			for _, behind := range []string{"", `"`, `b"`, long, long + `"`} {
				holdFaulty(t, `"`+long+wrong+behind, api.ErrForm, 1+n)
				holdFaulty(t, `"`+long+`\`+wrong+behind, api.ErrForm, 2+n)
			}
		}
		holdFaulty(t, `"`+long+`\a"`, api.ErrForm, 2+n)
		holdFaulty(t, `"`+"\t"+long+`"`, api.ErrForm, 1)
		if n > 1000 {
			holdFaulty(t, `"`+long, api.ErrLong, 0)
			holdFaulty(t, `"`+long+`\`, api.ErrLong, 0)
			holdFaulty(t, `"`+long+`\"`, api.ErrLong, 0)
		}
	}
}

// P11.1: signs

func TestSigns(t *testing.T) {
	for _, s := range signs() {
		holdSpell(t, tok(sign, s), s)
		holdLex(t, s+"a", tok(sign, s), at(len(s), tok(name, "a")))
		holdLex(t, "a"+s, tok(name, "a"), at(1, tok(sign, s)))
	}
}

// TestPairsOfSigns holds two signs without a blank between: they are one if there is such a one, and no comment.
func TestPairsOfSigns(t *testing.T) {
	for _, s := range signs() {
		for _, u := range signs() {
			first, second := tok(sign, s), at(len(s), tok(sign, u))
			switch {
			case s+u == "//":
				holdLex(t, s+u)
			case slices.Contains(signs(), s+u):
				holdLex(t, s+u, tok(sign, s+u))
			case u == "==" && slices.Contains(signs(), s+"="):
				holdLex(t, s+u, tok(sign, s+"="), at(2, tok(sign, "=")))
			default:
				holdLex(t, s+u, first, second)
			}
			second.At++
			holdLex(t, s+" "+u, first, second)
		}
	}
}

func TestLongestSigns(t *testing.T) {
	holdLex(t, "===", tok(sign, "=="), at(2, tok(sign, "=")))
	holdLex(t, "====", tok(sign, "=="), at(2, tok(sign, "==")))
	holdLex(t, "!==", tok(sign, "!="), at(2, tok(sign, "=")))
	holdLex(t, "!!=", tok(sign, "!"), at(1, tok(sign, "!=")))
	holdLex(t, "<==", tok(sign, "<="), at(2, tok(sign, "=")))
	holdLex(t, "<<=", tok(sign, "<"), at(1, tok(sign, "<=")))
	holdLex(t, "=<", tok(sign, "="), at(1, tok(sign, "<")))
	holdLex(t, "=!", tok(sign, "="), at(1, tok(sign, "!")))
	holdLex(t, "&&&&", tok(sign, "&&"), at(2, tok(sign, "&&")))
	holdLex(t, "||||", tok(sign, "||"), at(2, tok(sign, "||")))
	holdLex(t, "= =", tok(sign, "="), at(2, tok(sign, "=")))
	holdLex(t, "< =! =", tok(sign, "<"), at(2, tok(sign, "=")), at(3, tok(sign, "!")), at(5, tok(sign, "=")))
}

// TestNoSigns holds all bytes with which no token begins.
func TestNoSigns(t *testing.T) {
	none := 0
	for c := range 256 {
		b := string([]byte{byte(c)})
		if strings.ContainsAny("\t\n\r \"{}():;,.=<+-*/%!?0123456789", b) || 'a' <= c|32 && c|32 <= 'z' && c < 128 {
			continue
		}
		none++
		for _, behind := range []string{"", " ", "a", "=", "1", "\"", "//", "\n", "_"} {
			holdFaulty(t, b+behind, api.ErrForm, 0)
		}
		holdFault(t, "a"+b, api.ErrForm, 1)
		holdFault(t, "a12 "+b+" "+b+"?", api.ErrForm, 4)
	}
	if none != 256-4-1-17-10-52 {
		t.Errorf("%d bytes", none)
	}
}

// TestHalfSigns holds what only looks like a sign.
func TestHalfSigns(t *testing.T) {
	for _, s := range []string{"&", "|", "& &", "| |", "&|", "|&", ">", ">=", ">>", "&=", "|=", "'a'", "[", "]", "@", "#", "$", "^", "~", "`", "\\", "\\n", "_a", "\x00"} {
		holdFaulty(t, s, api.ErrForm, 0)
	}
	holdFaulty(t, "&&&", api.ErrForm, 2)
	holdFaulty(t, "|||", api.ErrForm, 2)
	holdFaulty(t, "=>", api.ErrForm, 1)
	holdFaulty(t, "->", api.ErrForm, 1)
	holdFaulty(t, "<>", api.ErrForm, 1)
	holdFaulty(t, "a_b", api.ErrForm, 1)
	holdFaulty(t, "a'", api.ErrForm, 1)
	holdFault(t, "1 |", api.ErrForm, 2)
}

// TestBeyondASCII holds letters, digits, blanks and signs beyond ASCII, whole or cut.
func TestBeyondASCII(t *testing.T) {
	for _, c := range []string{
		"é", "É", "ß", "я", "α", "ａ", "Ａ", "０", "٣", "²", "ª", "\u212a", "ſ", "中", "𝐚", "\u0301", "\u200b", "\ufeff", "\ufffd", "\u00a0", "\u2028", "\u0085", "？", "＝", "“", "\x80", "\xa0", "\xc3", "\xff", "\xc3\x28",
	} {
		holdFaulty(t, c, api.ErrForm, 0)
		holdFaulty(t, "ab"+c, api.ErrForm, 2)
		holdFaulty(t, "Ab"+c+"c", api.ErrForm, 2)
		holdFaulty(t, "12"+c, api.ErrForm, 2)
		holdFaulty(t, "="+c, api.ErrForm, 1)
		holdFaulty(t, `"a`+c+`"`, api.ErrForm, 2)
		holdFaulty(t, `"\`+c+`"`, api.ErrForm, 2)
		holdLex(t, "//"+c+"\n1//"+c, at(3+len(c), num(whole, 1)))
	}
}

// Blanks

func TestBlanksAlone(t *testing.T) {
	for _, s := range []string{"", " ", "\t", "\n", "\r", "\r\n", " \t\n\r ", "//", "///", "////", "// c", "//\n", "//c\n", "//\n//", "//\n//\n", " // \n\t//a//b\r\n\n", "//\"", "//_&|\x00\xff", "//é", "//\\n"} {
		holdLex(t, s)
		holdLex(t, s+"\nx", at(len(s)+1, tok(name, "x")))
	}
	for _, s := range []string{"\v", "\f", "\b", "\x00", "\x1f", "\x7f", "\x85", "\xa0", "\u00a0"} {
		holdFaulty(t, s, api.ErrForm, 0)
		holdFaulty(t, "a"+s, api.ErrForm, 1)
	}
}

// TestBlanksBetween holds that each blank parts tokens.
func TestBlanksBetween(t *testing.T) {
	for _, s := range []string{" ", "\t", "\n", "\r", "\r\n", "  ", "// c\n", "//\n", "// \"\n", "//\n//\n", " //a\r\n\t"} {
		n := len(s)
		holdLex(t, "a"+s+"b", tok(name, "a"), at(1+n, tok(name, "b")))
		holdLex(t, "1"+s+"2r"+s+"r", num(whole, 1), at(1+n, num(real, 2)), at(3+2*n, tok(name, "r")))
		holdLex(t, "="+s+"="+s+"!"+s+"=", tok(sign, "="), at(1+n, tok(sign, "=")), at(2+2*n, tok(sign, "!")), at(3+3*n, tok(sign, "=")))
		holdLex(t, "in"+s+"t", tok(name, "in"), at(2+n, tok(name, "t")))
		holdLex(t, "int"+s+"int", tok(key, "int"), at(3+n, tok(key, "int")))
		holdLex(t, "\"a\""+s+"\"b\"", tok(text, "a"), at(3+n, tok(text, "b")))
		holdFault(t, "a&"+s+"&b", api.ErrForm, 1)
	}
}

func TestComments(t *testing.T) {
	holdLex(t, "a//b\nc", tok(name, "a"), at(5, tok(name, "c")))
	holdLex(t, "a//b\rc", tok(name, "a"))
	holdLex(t, "a//b\r\nc", tok(name, "a"), at(6, tok(name, "c")))
	holdLex(t, "a//b//c\nd", tok(name, "a"), at(8, tok(name, "d")))
	holdLex(t, "a/ /b", tok(name, "a"), at(1, tok(sign, "/")), at(3, tok(sign, "/")), at(4, tok(name, "b")))
	holdLex(t, "a/\n/b", tok(name, "a"), at(1, tok(sign, "/")), at(3, tok(sign, "/")), at(4, tok(name, "b")))
	holdLex(t, "a///b\nc", tok(name, "a"), at(6, tok(name, "c")))
	holdLex(t, "a//b\n/c", tok(name, "a"), at(5, tok(sign, "/")), at(6, tok(name, "c")))
	holdLex(t, "/", tok(sign, "/"))
	holdLex(t, "1/", num(whole, 1), at(1, tok(sign, "/")))
	holdLex(t, "/*a*/", tok(sign, "/"), at(1, tok(sign, "*")), at(2, tok(name, "a")), at(3, tok(sign, "*")), at(4, tok(sign, "/")))
	holdLex(t, "x // "+strings.Repeat("a", 25)+" 007 \"a _\n y", tok(name, "x"), at(41, tok(name, "y")))
	holdLex(t, "x // no end \\", tok(name, "x"))
}

// P11.1: the whole

// TestMaxSource holds that a source has at most 20,000 bytes, which is told ahead of all other faults.
func TestMaxSource(t *testing.T) {
	for _, s := range []string{" ", "\n", "//", "a", "0", "(", "_", "\"", "\"a\"", "&", "\x00", "\xff", "&&", "if "} {
		for _, n := range []int{20001, 20002, 20003, 25000, 40000, 65536 + 3, 1 << 20} {
			holdFault(t, strings.Repeat(s, n)[:n], api.ErrLong, 20000)
		}
	}
	for _, n := range []int{19999, 20000} {
		holdLex(t, strings.Repeat(" ", n))
		holdLex(t, strings.Repeat("\r\n", n)[:n])
		holdLex(t, "//"+strings.Repeat("_", n-2))
		holdLex(t, strings.Repeat(" ", n-3)+"end", at(n-3, tok(name, "end")))
		holdLex(t, strings.Repeat(" ", n-2)+`""`, at(n-2, tok(text, "")))
		holdFault(t, strings.Repeat(" ", n-1)+"_", api.ErrForm, n-1)
		holdFault(t, strings.Repeat(" ", n-1)+`"`, api.ErrForm, n-1)
		holdFault(t, strings.Repeat(" ", n-2)+"1x", api.ErrForm, n-1)
		holdFault(t, strings.Repeat("_", n), api.ErrForm, 0)
		holdFault(t, strings.Repeat("a", n), api.ErrLong, 0)
		holdFault(t, strings.Repeat("1", n), api.ErrRange, 0)
	}
}

// TestManyTokens holds sources of as many tokens as there may be.
func TestManyTokens(t *testing.T) {
	for s, x := range map[string]api.Token{"(": tok(sign, "("), "a ": tok(name, "a"), "0\n": num(whole, 0), "9r ": num(real, 9), `""`: tok(text, ""), "<=": tok(sign, "<="), "if\t": tok(key, "if"), "C//\n": tok(class, "C"), "&&": tok(sign, "&&")} {
		n := 20000 / len(s)
		var want []api.Token
		for i := range n {
			want = append(want, at(i*len(s), x))
		}
		holdLex(t, strings.Repeat(s, n), want...)
	}
}

// TestFirstFault holds that of several faults the first one is told, of whatever sort.
func TestFirstFault(t *testing.T) {
	faults := []struct {
		s     string
		err   api.Errno
		place int
	}{
		{"_", api.ErrForm, 0}, {strings.Repeat("a", 21), api.ErrLong, 0}, {"07", api.ErrRange, 0}, {"9223372036854775808", api.ErrRange, 0}, {"12x", api.ErrForm, 2}, {"1rr", api.ErrForm, 2},
		{`"\a"`, api.ErrForm, 2}, {"\"\t\"", api.ErrForm, 1}, {`"` + strings.Repeat("a", 1001) + `"`, api.ErrLong, 0}, {"&", api.ErrForm, 0},
	}
	for _, x := range faults {
		for _, y := range faults {
			holdFaulty(t, x.s+" "+y.s, x.err, x.place)
			holdFaulty(t, x.s+" \"", x.err, x.place)
			// What stands in a comment is not told.
			holdFaulty(t, "//"+x.s+"\n"+y.s, y.err, y.place+3+len(x.s))
		}
	}
}

// TestProgram holds the tokens of a whole program.
func TestProgram(t *testing.T) {
	holdLex(t, "class C:D{var x:?;}\nmain{ // go\n\tc.m(-1)!=none C||x%2==0r}",
		tok(key, "class"), at(6, tok(class, "C")), at(7, tok(sign, ":")), at(8, tok(class, "D")), at(9, tok(sign, "{")),
		at(10, tok(key, "var")), at(14, tok(name, "x")), at(15, tok(sign, ":")), at(16, tok(sign, "?")), at(17, tok(sign, ";")), at(18, tok(sign, "}")),
		at(20, tok(key, "main")), at(24, tok(sign, "{")),
		at(33, tok(name, "c")), at(34, tok(sign, ".")), at(35, tok(name, "m")), at(36, tok(sign, "(")), at(37, tok(sign, "-")), at(38, num(whole, 1)), at(39, tok(sign, ")")),
		at(40, tok(sign, "!=")), at(42, tok(key, "none")), at(47, tok(class, "C")), at(48, tok(sign, "||")), at(50, tok(name, "x")), at(51, tok(sign, "%")), at(52, num(whole, 2)), at(53, tok(sign, "==")), at(55, num(real, 0)), at(57, tok(sign, "}")))
}

// P11.2

func TestSpellWords(t *testing.T) {
	for _, s := range []string{"a", "x1Y", "nothing", "abcdefghijklmnopqrst"} {
		holdSpell(t, tok(name, s), s)
		holdNone(t, tok(class, s), tok(key, s), tok(sign, s), tok(whole, s), tok(real, s))
	}
	for _, s := range []string{"A", "Cat2", "Abcdefghijklmnopqrst"} {
		holdSpell(t, tok(class, s), s)
		holdNone(t, tok(name, s), tok(key, s), tok(sign, s), tok(whole, s), tok(real, s))
	}
	for _, s := range reserved() {
		holdSpell(t, tok(key, s), s)
		holdNone(t, tok(class, s), tok(name, s), tok(sign, s), tok(whole, s), tok(real, s))
	}
	for _, s := range signs() {
		holdNone(t, tok(class, s), tok(name, s), tok(key, s), tok(whole, s), tok(real, s))
	}
}

// TestSpellNoText holds texts that no word and no sign is.
func TestSpellNoText(t *testing.T) {
	for _, s := range []string{
		"", " ", "a ", " a", "A ", " A", "if ", " if", "a b", "A B", "if if", "a//", "a//b", "A//", "if//\n", "//", "// a", "a\n", "\na", "\ta", "a\r", "1", "1a", "12r", "_", "a_b", "é", "aé", "\x00", "a\x00", "\xff", `"a"`, `""`, `"`, "a.b", "(a)",
		strings.Repeat("a", 21), strings.Repeat("A", 21), "< ", " <", "< =", "<= ", "&", "|", ">", ">=", "&& ", "&&&&", "()", "{}", "===", "+-", "/ /", "///", "=\n", "=//", "if(", strings.Repeat(" ", 20001), strings.Repeat("a", 20001), strings.Repeat("a", 1<<20),
	} {
		holdNone(t, tok(name, s), tok(class, s), tok(key, s), tok(sign, s))
		if s != "" {
			holdNone(t, tok(whole, s), tok(real, s))
		}
	}
}

// TestSpellTexts holds texts with each byte, and of each length around the limit.
func TestSpellTexts(t *testing.T) {
	for i := range 256 {
		c := byte(i)
		b := string([]byte{c})
		for _, s := range []string{b, "a" + b, b + "a", b + b, "\n" + b + "\"", "//" + b} {
			inside := escaped(s)
			if c >= 32 && c <= 126 || c == 10 {
				holdSpell(t, tok(text, s), `"`+inside+`"`)
			} else {
				holdNone(t, tok(text, s))
			}
		}
	}
	for _, s := range []string{"a", "\n", `\`, `"`, " "} {
		inside := escaped(s)
		for _, n := range []int{0, 1, 999, 1000} {
			holdSpell(t, tok(text, strings.Repeat(s, n)), `"`+strings.Repeat(inside, n)+`"`)
		}
		for _, n := range []int{1001, 1256, 2000, 9998, 9999, 10000, 19998, 19999, 20000, 20001, 1 << 20} {
			holdNone(t, tok(text, strings.Repeat(s, n)))
		}
	}
	holdNone(t, tok(text, "é"), tok(text, "\u2028"), tok(text, strings.Repeat("a", 999)+"\t"))
}

// TestSpellNumbers holds numbers at the ends of their ranges.
func TestSpellNumbers(t *testing.T) {
	holdNone(t,
		num(whole, -1), num(whole, -2), num(whole, -9007199254740992), num(whole, math.MinInt), num(whole, math.MinInt+1),
		num(real, -1), num(real, -9007199254740992), num(real, math.MinInt), num(real, 1<<53+1), num(real, 1<<53+2), num(real, 1<<54), num(real, math.MaxInt),
	)
	for _, kind := range []int{whole, real} {
		for _, s := range []string{"0", "1", "1r", "r", " ", "nan", "inf", "a", "\x00"} {
			holdNone(t, api.Token{Kind: kind, Text: s}, api.Token{Kind: kind, Text: s, N: 1})
		}
	}
}

// TestSpellNumbersOfTexts holds that a token with a text has the number 0.
func TestSpellNumbersOfTexts(t *testing.T) {
	for _, x := range []api.Token{tok(name, "a"), tok(class, "A"), tok(key, "if"), tok(text, "a"), tok(text, ""), tok(text, "1"), tok(sign, "="), tok(sign, "&&")} {
		for _, n := range []int{1, 2, -1, 1 << 32, math.MinInt, math.MaxInt} {
			x.N = n
			holdNone(t, x)
		}
	}
}

// TestSpellKinds holds that there are no other kinds.
func TestSpellKinds(t *testing.T) {
	kinds := []int{math.MinInt, math.MinInt + 1, math.MaxInt, 1<<8 + 1, 1<<8 + 6, 1<<16 + 4, 1<<32 + 1, 1<<32 + 4, 1<<62 + 7}
	for kind := -300; kind <= 300; kind++ {
		if kind < 1 || kind > 7 {
			kinds = append(kinds, kind)
		}
	}
	for _, kind := range kinds {
		for _, s := range []string{"", "a", "A", "if", "=", "1", "1r", `"a"`, `""`} {
			holdNone(t, tok(kind, s), api.Token{Kind: kind, Text: s, N: 1})
		}
	}
	holdNone(t, api.Token{})
}

func TestJoin(t *testing.T) {
	holdJoin(t, nil, "", api.OK)
	holdJoin(t, []api.Token{}, "", api.OK)
	holdJoin(t, []api.Token{tok(text, "")}, `""`, api.OK)
	holdJoin(t, []api.Token{tok(sign, "="), tok(sign, "="), tok(sign, "/"), tok(sign, "/"), tok(sign, "&&")}, "= = / / &&", api.OK)
	holdJoin(t, []api.Token{num(whole, 1), num(real, 2), tok(name, "r"), tok(text, " \"\n\\ "), tok(key, "int"), tok(class, "C")}, `1 2r r " \"\n\\ " int C`, api.OK)
	// Places do not matter, not even their order.
	holdJoin(t, []api.Token{at(9, tok(name, "a")), at(-1, tok(name, "b")), at(9, tok(name, "c"))}, "a b c", api.OK)
}

// TestJoinMany holds that any number of tokens are joined, a source that is too long among them.
func TestJoinMany(t *testing.T) {
	for _, n := range []int{1, 2, 10000, 10001, 30000} {
		holdJoin(t, slices.Repeat([]api.Token{tok(sign, "?")}, n), strings.Repeat("? ", n)[:2*n-1], api.OK)
	}
	long := tok(text, strings.Repeat("\n", 1000))
	holdJoin(t, slices.Repeat([]api.Token{long}, 100), strings.Repeat(`"`+strings.Repeat(`\n`, 1000)+`" `, 100)[:100*2003-1], api.OK)
}

// TestJoinFaults holds that one that is no token spoils all, wherever it stands.
func TestJoinFaults(t *testing.T) {
	good := []api.Token{tok(name, "a"), num(whole, 1), tok(text, "b"), tok(sign, "="), tok(class, "C")}
	for _, wrong := range []api.Token{{}, tok(name, "if"), tok(text, "\t"), num(whole, -1), num(real, 1<<53+1), tok(sign, "//"), tok(sign, ""), {Kind: name, Text: "a", N: 1}} {
		for i := range len(good) + 1 {
			holdJoin(t, slices.Insert(slices.Clone(good), i, wrong), "", api.ErrForm)
			holdJoin(t, slices.Insert(slices.Clone(good), i, wrong, wrong), "", api.ErrForm)
		}
	}
}

// DOC.md, rule 4

// TestSourceStays holds that a source is neither changed nor kept, nor what stands behind it read.
func TestSourceStays(t *testing.T) {
	for _, s := range []string{"", "a", "ab1", "12", "12r", `"a\n"`, `"a`, "=", "<", "&", "// c", "/", "if", "x y"} {
		for _, behind := range []string{"b", "1", "r", `"`, "=", "&", "/", "//", "\n", `\`, "_"} {
			all := []byte(s + behind + strings.Repeat(behind, 8))
			b := all[:len(s)]
			before := bytes.Clone(all)
			l, f := lexer.Lex(b)
			if !bytes.Equal(all, before) {
				t.Errorf("%s was changed", short(s))
			}
			alone, g := lexer.Lex([]byte(s))
			if !slices.Equal(l, alone) || f != g {
				t.Errorf("%s with %s behind it: %v %v, and not %v %v", short(s), short(behind), l, f, alone, g)
			}
			for i := range all {
				all[i] = '!'
			}
			if !slices.Equal(l, alone) {
				t.Errorf("%s was kept: %v", short(s), l)
			}
		}
	}
}

// TestTokensAreNew holds that a list of tokens shares nothing with another one, and that those that are joined stay.
func TestTokensAreNew(t *testing.T) {
	b := []byte(`if x <= "a" 12r C`)
	first, _ := lexer.Lex(b)
	want := slices.Clone(first)
	lexer.Lex([]byte("other tokens, in other places; so many of them"))
	lexer.Spell(tok(name, "a"))
	if !slices.Equal(first, want) {
		t.Errorf("a list became %v", first)
	}
	first = first[:cap(first)]
	for i := range first {
		first[i] = tok(name, "spoilt")
	}
	if l, f := lexer.Lex(b); f != (api.Fault{}) || !slices.Equal(l, want) {
		t.Errorf("%v %v", l, f)
	}
	spare := append(slices.Clone(want), tok(name, "y"), tok(name, "z"))
	kept := slices.Clone(spare)
	if s, err := lexer.Join(spare[:len(want)]); s != string(b) || err != api.OK {
		t.Errorf("%s, error %d", s, err)
	}
	if !slices.Equal(spare, kept) {
		t.Errorf("%v", spare)
	}
}
