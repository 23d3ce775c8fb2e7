package chain_test

import (
	"math"
	"slices"
	"strconv"
	"strings"
	"testing"

	"chaperon/api"
	"chaperon/chain"
)

// layers makes a chain of a text: layers with spaces between them, each its side (i or o), its class, its label.
func layers(text string) []api.Layer {
	var l []api.Layer
	for _, w := range strings.Fields(text) {
		at := strings.IndexAny(w, "-0123456789")
		label, err := strconv.Atoi(w[at:])
		if err != nil || w[0] != 'i' && w[0] != 'o' {
			panic("no layer: " + w)
		}
		l = append(l, api.Layer{Out: w[0] == 'o', Class: w[1:at], Label: label})
	}
	return l
}

// text tells a chain as layers reads it; of a long one only its ends.
func text(l []api.Layer) string {
	if len(l) > 60 {
		return text(l[:20]) + " .. " + text(l[len(l)-20:]) + " (" + strconv.Itoa(len(l)) + ")"
	}
	var words []string
	for _, x := range l {
		side := "i"
		if x.Out {
			side = "o"
		}
		words = append(words, side+x.Class+strconv.Itoa(x.Label))
	}
	return strings.Join(words, " ")
}

// plus makes a new chain of some others, one behind the other.
func plus(chains ...[]api.Layer) []api.Layer {
	return slices.Concat(chains...)
}

// alphabet returns n letters, as layers: two of each class, the last class having one if n is odd.
func alphabet(n int) []api.Layer {
	var l []api.Layer
	for i := range n {
		l = append(l, api.Layer{Out: i%2 == 0, Class: "C" + string(rune('a'+i/2%26)) + strings.Repeat("x", i/52)})
	}
	return l
}

// labelled returns the chain with the labels 1, 2, 3 and so on.
func labelled(l []api.Layer) []api.Layer {
	l = slices.Clone(l)
	for i := range l {
		l[i].Label = i + 1
	}
	return l
}

// repeat returns n layers of these letters in turn, labelled.
func repeat(letters []api.Layer, n int) []api.Layer {
	var l []api.Layer
	for i := range n {
		l = append(l, letters[i%len(letters)])
	}
	return labelled(l)
}

// reversed returns the chain the other way round.
func reversed(l []api.Layer) []api.Layer {
	l = slices.Clone(l)
	slices.Reverse(l)
	return l
}

// holdNorm holds a chain's norm.
func holdNorm(t *testing.T, l, want []api.Layer) {
	t.Helper()
	if got := chain.Norm(l); !slices.Equal(got, want) {
		t.Errorf("the norm of %s: %s, and not %s", text(l), text(got), text(want))
	}
}

// holdAdd holds a chain's norm with one more layer.
func holdAdd(t *testing.T, l []api.Layer, x api.Layer, want []api.Layer) {
	t.Helper()
	if got := chain.Add(l, x); !slices.Equal(got, want) {
		t.Errorf("%s with %s: %s, and not %s", text(l), text([]api.Layer{x}), text(got), text(want))
	}
}

// holdMerge holds the norm of two chains.
func holdMerge(t *testing.T, l, m, want []api.Layer) {
	t.Helper()
	if got := chain.Merge(l, m); !slices.Equal(got, want) {
		t.Errorf("%s with %s: %s, and not %s", text(l), text(m), text(got), text(want))
	}
}

// holdAll holds the norm of a chain, however it comes about: at once, of all but its last layer and that one, of two parts of it.
func holdAll(t *testing.T, l, want []api.Layer) {
	t.Helper()
	holdNorm(t, l, want)
	if len(l) > 0 {
		holdAdd(t, l[:len(l)-1], l[len(l)-1], want)
	}
	for _, at := range []int{0, len(l) / 2, len(l)} {
		holdMerge(t, l[:at], l[at:], want)
	}
}

// holdClasses holds the classes of a chain, and as what it is seen.
func holdClasses(t *testing.T, own string, l []api.Layer, seen string, classes ...string) {
	t.Helper()
	if got := chain.Seen(own, l); got != seen {
		t.Errorf("%q, %s is seen as %q, and not %q", own, text(l), got, seen)
	}
	if got := chain.Classes(own, l); !slices.Equal(got, classes) {
		t.Errorf("%q, %s has the classes %q, and not %q", own, text(l), got, classes)
	}
}

// holdBound holds the bound of a number of classes.
func holdBound(t *testing.T, classes, want int, wrong api.Errno) {
	t.Helper()
	if n, err := chain.Bound(classes); n != want || err != wrong {
		t.Errorf("the bound of %d classes: %d %v, and not %d %v", classes, n, err, want, wrong)
	}
}

// The chapter's examples

func TestExamplesNorm(t *testing.T) {
	holdAll(t, layers("oC1 oC2 oC3"), layers("oC1 oC3"))
	holdAll(t, layers("oC1 oD2 oC3 oD4 oC5"), layers("oC1 oD2 oC3 oD4 oC5"))
	holdAll(t, layers("oC1 oD2 oC3 oD4 oC5 oD6 oC7"), layers("oC1 oD2 oC3 oC5 oD6 oC7"))
	holdAdd(t, layers("oC1 oC3"), layers("oC4")[0], layers("oC1 oC4"))
	holdMerge(t, layers("oC1"), layers("oC2 iC3"), layers("oC1 oC2 iC3"))
	holdAll(t, nil, nil)
}

func TestExamplesOthers(t *testing.T) {
	holdClasses(t, "X", nil, "X", "X")
	holdClasses(t, "X", layers("oC1 iD2"), "D", "X", "C", "D")
	holdClasses(t, "X", layers("oC1 iX2 oC3"), "C", "X", "C")
	holdBound(t, 1, 12, api.OK)
	holdBound(t, 0, 0, api.OK)
	holdBound(t, 41, 0, api.ErrRange)
}

// P10.1

// TestNormByHand holds norms that were worked out by hand.
func TestNormByHand(t *testing.T) {
	for l, want := range map[string]string{
		"oC1":                                 "oC1",
		"iC1":                                 "iC1",
		"oC1 oC2":                             "oC1 oC2",
		"oC1 iC2":                             "oC1 iC2",
		"iC1 oC2 iC3":                         "iC1 oC2 iC3",
		"iC1 iC2 iC3 iC4":                     "iC1 iC4",
		"oC1 oD2 oD3 oD4":                     "oC1 oD2 oD4",
		"oC1 oC2 oC3 oD4":                     "oC1 oC3 oD4",
		"oC1 oD2 oD3 oC4":                     "oC1 oD2 oD3 oC4",
		"oC1 oD2 oD3 oD4 oC5":                 "oC1 oD2 oD4 oC5",
		"oC1 oC2 oD3 oC4 oC5":                 "oC1 oC2 oD3 oC4 oC5",
		"oC1 oC2 oC3 oD4 oC5 oC6 oC7":         "oC1 oC3 oD4 oC5 oC7",
		"oC1 iC2 oC3 iC4 oC5 iC6 oC7":         "oC1 iC2 oC3 oC5 iC6 oC7",
		"oC1 oD2 oC3 oD4 oC5 oD6":             "oC1 oD2 oC3 oD4 oC5 oD6",
		"oA1 oB2 oC3 oA4 oB5 oC6 oA7 oB8 oC9": "oA1 oB2 oC3 oA4 oB5 oC6 oA7 oB8 oC9",
		"oA1 oB2 oA3 oC4 oA5 oB6 oC7 oC8 oB9": "oA1 oB2 oA3 oC4 oA5 oB6 oC8 oB9",
	} {
		holdAll(t, layers(l), layers(want))
	}
}

// TestInTurn holds the norm of layers of one letter, of two, of three, in turn, however many: two of one, six of two, twelve of three.
func TestInTurn(t *testing.T) {
	for _, n := range []int{13, 14, 15, 100, 999, 5000} {
		one, two, three := repeat(alphabet(1), n), repeat(alphabet(2), n), repeat(alphabet(3), n)
		holdAll(t, one, plus(one[:1], one[n-1:]))
		holdAll(t, two, plus(two[:3], two[n-3:]))
		holdAll(t, three, plus(three[:5], three[n-5:]))
	}
}

// TestAllDifferent holds that all layers are kept if there are no two with the same letter.
func TestAllDifferent(t *testing.T) {
	for n := range 81 {
		l := labelled(alphabet(n))
		holdAll(t, l, l)
		holdAll(t, reversed(l), reversed(l))
	}
}

// TestSides holds that layers of one class are of two letters, by their sides.
func TestSides(t *testing.T) {
	holdAll(t, layers("oC1 iC2 oC3 iC4 iC5 oC6 oC7 iC8"), layers("oC1 iC2 oC3 iC5 oC7 iC8"))
	holdAll(t, layers("oC1 oC2 oC3 iC4 iC5 iC6"), layers("oC1 oC3 iC4 iC6"))
	holdAll(t, layers("iC1 oC2 iD3 oD4"), layers("iC1 oC2 iD3 oD4"))
}

// TestLabelsDoNotMatter holds that the same places are kept, whatever the labels are, and each with its own.
func TestLabelsDoNotMatter(t *testing.T) {
	l := layers("oC1 oD2 oC3 oD4 oC5 oD6 oC7")
	kept := []int{0, 1, 2, 4, 5, 6}
	for _, labels := range [][]int{
		{0, 0, 0, 0, 0, 0, 0}, {1, 1, 1, 1, 1, 1, 1}, {-1, -1, -1, -1, -1, -1, -1}, {7, 6, 5, 4, 3, 2, 1}, {1, -1, 1, -1, 1, -1, 1},
		{math.MinInt, math.MaxInt, 0, math.MinInt, math.MaxInt, 0, math.MinInt}, {5, 5, 5, 6, 7, 7, 7}, {1, 2, 3, 1, 2, 3, 1},
	} {
		var want []api.Layer
		for i := range l {
			l[i].Label = labels[i]
		}
		for _, at := range kept {
			want = append(want, l[at])
		}
		holdAll(t, l, want)
	}
}

// TestAnyClasses holds that classes are any texts, the same one only to the letter.
func TestAnyClasses(t *testing.T) {
	names := []string{"", " ", "C", "c", "C ", " C", "Cc", "CC", "?", "int", "C\x00", "\x00C", "\xff", "é", "e\u0301", "i", "o", "true", strings.Repeat("C", 20), strings.Repeat("C", 21), strings.Repeat("C", 100000), strings.Repeat("C", 99999) + "D"}
	for i, name := range names {
		l := []api.Layer{{Out: true, Class: name, Label: 1}, {Out: true, Class: name, Label: 2}, {Out: true, Class: name, Label: 3}}
		if got, want := chain.Norm(l), plus(l[:1], l[2:]); !slices.Equal(got, want) {
			t.Errorf("a class of %d bytes: %d layers of three are kept", len(name), len(got))
		}
		for k, other := range names {
			// Between two layers of one letter a third one is kept only if its letter is another one.
			l[1].Class = other
			if got := chain.Norm(l); i != k && !slices.Equal(got, l) {
				t.Errorf("classes of %d and %d bytes are taken for one", len(name), len(other))
			}
			if got, want := len(chain.Classes(name, l)), len(plainClasses(name, l)); got != want {
				t.Errorf("classes of %d and %d bytes: %d", len(name), len(other), got)
			}
		}
	}
}

// TestNotNorms holds that Add and Merge shorten what they are given too, not only what comes behind it.
func TestNotNorms(t *testing.T) {
	holdAdd(t, layers("oC1 oC2 oC3"), layers("iD4")[0], layers("oC1 oC3 iD4"))
	holdAdd(t, layers("oC1 oC2 oC3"), layers("oC3")[0], layers("oC1 oC3"))
	holdAdd(t, nil, layers("oC7")[0], layers("oC7"))
	holdAdd(t, nil, api.Layer{}, []api.Layer{{}})
	holdMerge(t, layers("oC1 oC2 oC3"), nil, layers("oC1 oC3"))
	holdMerge(t, nil, layers("oC1 oC2 oC3"), layers("oC1 oC3"))
	holdMerge(t, layers("oC1 oC2 oC3"), layers("iC4 iC5 iC6"), layers("oC1 oC3 iC4 iC6"))
	holdMerge(t, layers("oC1 oD2 oC3 oD4"), layers("oC5 oD6 oC7"), layers("oC1 oD2 oC3 oC5 oD6 oC7"))
	holdMerge(t, nil, nil, nil)
	holdMerge(t, []api.Layer{}, []api.Layer{}, nil)
}

// stairs makes a chain of n letters of which all layers are kept going there: each letter brings all those before it once more.
func stairs(letters []api.Layer) []api.Layer {
	var l []api.Layer
	for i, x := range letters {
		l = append(append(l, x), letters[:i]...)
	}
	return l
}

// TestLongest holds the longest norms: of stairs there and back nothing goes, and between them nothing is kept.
func TestLongest(t *testing.T) {
	for _, n := range []int{1, 2, 3, 4, 5, 10, 39, 80} {
		letters := alphabet(n)
		up := stairs(letters)
		between := plus(letters, reversed(letters), letters, letters[:n/2])
		all := labelled(plus(up, between, reversed(up)))
		want := plus(all[:len(up)], all[len(all)-len(up):])
		if len(want) != n*(n+1) {
			t.Fatalf("%d letters: the stairs have %d layers", n, len(want))
		}
		holdAll(t, all, want)
		holdAll(t, want, want)
	}
}

// TestLongChains holds norms of as many layers as there may be.
func TestLongChains(t *testing.T) {
	const most = 100000
	one := repeat(alphabet(1), most)
	holdAll(t, one, plus(one[:1], one[most-1:]))
	two := repeat(alphabet(2), most)
	holdAll(t, two, plus(two[:3], two[most-3:]))
	many := repeat(alphabet(80), most)
	holdAll(t, many, plus(many[:159], many[most-159:]))
	all := make([]api.Layer, most)
	for i := range all {
		all[i] = api.Layer{Out: i%2 == 0, Class: "C" + strconv.Itoa(i/2), Label: i}
	}
	holdAll(t, all, all)
	twice := labelled(plus(all[:most/2], all[:most/2]))
	holdAll(t, twice, twice)
	mirrored := labelled(plus(all[:most/2], reversed(all[:most/2])))
	holdAll(t, mirrored, mirrored)
}

// P10.2

func TestSeenAndClasses(t *testing.T) {
	holdClasses(t, "", nil, "", "")
	holdClasses(t, "", []api.Layer{}, "", "")
	holdClasses(t, "C", layers("oC1"), "C", "C")
	holdClasses(t, "C", layers("iC1 oC2 iC3"), "C", "C")
	holdClasses(t, "X", layers("oC1"), "C", "X", "C")
	holdClasses(t, "X", layers("iD1 oC2 oD3 iX4 iE5 oC6"), "C", "X", "D", "C", "E")
	holdClasses(t, "X", layers("oZ1 oY2 oX3 oA4 oB5 oA6 oZ7"), "Z", "X", "Z", "Y", "A", "B")
	holdClasses(t, "X", layers("oC1 oX0"), "X", "X", "C")
	holdClasses(t, "X", []api.Layer{{}}, "", "X", "")
	holdClasses(t, "", []api.Layer{{Class: "C"}, {}}, "", "", "C")
	holdClasses(t, " X", []api.Layer{{Class: "X"}, {Class: "x"}, {Class: "X "}}, "X ", " X", "X", "x", "X ")
	holdClasses(t, "\xff", []api.Layer{{Class: "é"}, {Class: "\xff"}, {Class: "e\u0301"}}, "e\u0301", "\xff", "é", "e\u0301")
}

// TestManyClasses holds the classes of as many layers as there may be.
func TestManyClasses(t *testing.T) {
	want := []string{"X"}
	var l []api.Layer
	for i := range 50000 {
		want = append(want, "C"+strconv.Itoa(i))
		l = append(l, api.Layer{Class: "C" + strconv.Itoa(i)}, api.Layer{Out: true, Class: "C" + strconv.Itoa(i/2)})
	}
	if got := chain.Classes("X", l); !slices.Equal(got, want) {
		t.Errorf("%d classes", len(got))
	}
	if got := chain.Seen("X", l); got != "C24999" {
		t.Errorf("seen as %q", got)
	}
}

// P10.3

func TestBound(t *testing.T) {
	for classes, want := range map[int]int{2: 40, 3: 84, 4: 144, 10: 840, 20: 3280, 39: 12324, 40: 12960} {
		holdBound(t, classes, want, api.OK)
	}
	for classes := range 41 {
		n := classes + classes
		holdBound(t, classes, 2*n*(n+1), api.OK)
	}
	for _, classes := range []int{-1, -2, -40, -41, 41, 42, 80, 81, 256, 1 << 31, 1 << 32, 1<<32 + 1, -1 << 32, math.MinInt, math.MinInt + 1, math.MaxInt} {
		holdBound(t, classes, 0, api.ErrRange)
	}
}

// DOC.md, rule 4

// spare returns the layers in a list with room behind them, all of it taken by other layers; and that room with them.
func spare(l []api.Layer) ([]api.Layer, []api.Layer) {
	whole := plus(l, layers("iZ-1 oZ-2 iZ-3 oZ-4"))
	return whole[:len(l)], whole
}

// TestArgumentsStay holds that no call changes its arguments, or the room behind them.
func TestArgumentsStay(t *testing.T) {
	for _, words := range []string{"", "oC1", "oC1 oC2 oC3", "oC1 oD2 oC3 oD4 oC5 oD6 oC7", "iC1 oC2 iC3"} {
		l, whole := spare(layers(words))
		m, other := spare(layers("oC8 oC9 oC10 iD11"))
		before, after := slices.Clone(whole), slices.Clone(other)
		chain.Norm(l)
		chain.Add(l, m[0])
		chain.Merge(l, m)
		chain.Merge(l, l)
		chain.Seen("X", l)
		chain.Classes("X", l)
		if !slices.Equal(whole, before) || !slices.Equal(other, after) {
			t.Errorf("%s was changed: %s; %s", words, text(whole), text(other))
		}
	}
}

// TestResultsAreNew holds that a result shares nothing with the arguments, nor with another result: neither in its layers nor in the room behind them.
func TestResultsAreNew(t *testing.T) {
	for _, words := range []string{"", "oC1", "oC1 oC2", "oC1 oC2 oC3", "oC1 oD2 oC3 oD4 oC5 oD6 oC7", "iC1 oC2 iC3"} {
		l, whole := spare(layers(words))
		before := slices.Clone(whole)
		x := api.Layer{Class: "E", Label: 9}
		for name, call := range map[string]func() []api.Layer{
			"Norm":              func() []api.Layer { return chain.Norm(l) },
			"Add":               func() []api.Layer { return chain.Add(l, x) },
			"Merge":             func() []api.Layer { return chain.Merge(l, l) },
			"Merge with none":   func() []api.Layer { return chain.Merge(l, nil) },
			"Merge behind none": func() []api.Layer { return chain.Merge(nil, l) },
		} {
			first, want := call(), call()
			first = first[:cap(first)]
			for i := range first {
				first[i] = api.Layer{Out: true, Class: "Spoilt", Label: -99}
			}
			if !slices.Equal(whole, before) {
				t.Fatalf("%s of %s shares its layers with the argument", name, words)
			}
			if got := call(); !slices.Equal(got, want) {
				t.Errorf("%s of %s: %s, and then %s", name, words, text(want), text(got))
			}
		}
	}
}

// TestArgumentsAreNotKept holds that what a call returned does not change with its arguments.
func TestArgumentsAreNotKept(t *testing.T) {
	l, m := layers("oC1 oD2 oC3"), layers("iC4 iD5")
	results := [][]api.Layer{chain.Norm(l), chain.Add(l, m[0]), chain.Merge(l, m), chain.Merge(nil, l), chain.Merge(l, nil)}
	classes := chain.Classes("X", l)
	for i := range l {
		l[i] = api.Layer{Class: "Spoilt"}
	}
	clear(m)
	for i, want := range []string{"oC1 oD2 oC3", "oC1 oD2 oC3 iC4", "oC1 oD2 oC3 iC4 iD5", "oC1 oD2 oC3", "oC1 oD2 oC3"} {
		if got := text(results[i]); got != want {
			t.Errorf("%s became %s", want, got)
		}
	}
	if !slices.Equal(classes, []string{"X", "C", "D"}) {
		t.Errorf("the classes became %q", classes)
	}
}

// TestOneMemory holds the calls of two chains that are parts of one list.
func TestOneMemory(t *testing.T) {
	l := layers("oC1 oD2 oC3 oD4 oC5 oD6 oC7")
	want := layers("oC1 oD2 oC3 oC5 oD6 oC7")
	for at := range len(l) + 1 {
		holdMerge(t, l[:at], l[at:], want)
	}
	holdMerge(t, l[:5], l[3:], chain.Norm(plus(l[:5], l[3:])))
	holdAdd(t, l[:6], l[6], want)
}
