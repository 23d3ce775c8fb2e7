package chain_test

import (
	"slices"
	"testing"

	"chaperon/api"
	"chaperon/chain"
)

// chains calls do with all small chains, and with many that are made by chance.
func chains(t *testing.T, do func(l []api.Layer)) {
	t.Helper()
	stop := func(l []api.Layer) {
		if do(l); t.Failed() {
			t.FailNow()
		}
	}
	allSmall(stop)
	made(func(_ maker, l []api.Layer) { stop(l) })
}

// P10.4

// TestNormOfNorm holds that a norm is its own norm.
func TestNormOfNorm(t *testing.T) {
	chains(t, func(l []api.Layer) {
		norm := chain.Norm(l)
		holdNorm(t, norm, norm)
	})
}

// TestWhenShortened holds that it does not matter when a chain is shortened: a part of it, each part, after each layer, or at the end.
func TestWhenShortened(t *testing.T) {
	chains(t, func(l []api.Layer) {
		norm := chain.Norm(l)
		for at := range len(l) + 1 {
			if len(l) > 12 && at%9 != 0 {
				continue
			}
			early, late := l[:at], l[at:]
			holdMerge(t, chain.Norm(early), late, norm)
			holdMerge(t, early, chain.Norm(late), norm)
			holdMerge(t, chain.Norm(early), chain.Norm(late), norm)
		}
		var grown []api.Layer
		for _, x := range l {
			grown = chain.Add(grown, x)
		}
		if !slices.Equal(grown, norm) {
			t.Errorf("%s became %s layer by layer, and not %s", text(l), text(grown), text(norm))
		}
	})
}

// TestThreeParts holds that of three chains it does not matter which two are merged first.
func TestThreeParts(t *testing.T) {
	chains(t, func(l []api.Layer) {
		a, b, c := l[:len(l)/3], l[len(l)/3:len(l)/2], l[len(l)/2:]
		norm := chain.Norm(l)
		holdMerge(t, chain.Merge(a, b), c, norm)
		holdMerge(t, a, chain.Merge(b, c), norm)
	})
}

// TestNormIsPart holds that a norm has layers of the chain alone, in their order, the first and the last one and all letters among them.
func TestNormIsPart(t *testing.T) {
	chains(t, func(l []api.Layer) {
		norm := chain.Norm(l)
		rest := l
		for _, x := range norm {
			at := slices.Index(rest, x)
			if at < 0 {
				t.Fatalf("%s has %s, which is not of %s", text(norm), text([]api.Layer{x}), text(l))
			}
			rest = rest[at+1:]
		}
		if len(l) > 0 && (norm[0] != l[0] || norm[len(norm)-1] != l[len(l)-1]) {
			t.Errorf("%s: the ends of %s are others", text(l), text(norm))
		}
		for _, x := range l {
			if first(norm, 0, x) == len(norm) {
				t.Errorf("%s: %s is without a letter", text(l), text(norm))
			}
		}
	})
}

// TestSeenAsBefore holds that a chain is seen as its norm is, and has its classes, in the same order.
func TestSeenAsBefore(t *testing.T) {
	chains(t, func(l []api.Layer) {
		for _, own := range []string{"X", "Ca"} {
			holdClasses(t, own, chain.Norm(l), chain.Seen(own, l), chain.Classes(own, l)...)
		}
	})
}

// holdShort holds that a norm has no more layers than the bound of its classes.
func holdShort(t *testing.T, norm []api.Layer) {
	t.Helper()
	classes := len(plainClasses("Own", norm)) - 1
	bound, err := chain.Bound(classes)
	if err != api.OK || len(norm) > bound {
		t.Errorf("a norm of %d classes has %d layers, its bound is %d (%v)", classes, len(norm), bound, err)
	}
}

// TestBoundHolds holds that no norm is longer than the bound of its classes.
func TestBoundHolds(t *testing.T) {
	chains(t, func(l []api.Layer) { holdShort(t, chain.Norm(l)) })
	for n := range 81 {
		up := stairs(alphabet(n))
		holdShort(t, chain.Norm(plus(up, reversed(up))))
		holdShort(t, chain.Norm(plus(up, up, up)))
	}
}

// TestBoundOfLoops holds that a chain that grows without end stays below the bound: casts to and fro, layer by layer.
func TestBoundOfLoops(t *testing.T) {
	for n := 1; n <= 80; n += 13 {
		l, letters := []api.Layer(nil), alphabet(n)
		bound, _ := chain.Bound((n + 1) / 2)
		for i := range 2000 {
			x := letters[i*i%n]
			x.Label = i
			if l = chain.Add(l, x); len(l) > bound {
				t.Fatalf("%d letters: %d layers after %d, the bound is %d", n, len(l), i+1, bound)
			}
		}
	}
}

// P10.5

// labelsOf returns, for two letters, whether one is somewhere after the other, the label of the first b at or after the first a, and that of the last b at or before the last a.
func labelsOf(l []api.Layer, a, b api.Layer) (bool, int, bool, int, bool) {
	from, to := first(l, 0, a), last(l, len(l)-1, a)
	after, up, down := first(l, from+1, b) < len(l), first(l, from, b), last(l, to, b)
	ahead, behind := 0, 0
	if up < len(l) {
		ahead = l[up].Label
	}
	if down >= 0 {
		behind = l[down].Label
	}
	return after, ahead, up < len(l), behind, down >= 0
}

// TestPairsStay holds, for all pairs of letters, that a norm has one after the other where the chain has, with the same labels.
func TestPairsStay(t *testing.T) {
	chains(t, func(l []api.Layer) {
		norm, letters := chain.Norm(l), lettersOf(l)
		for _, a := range letters {
			for _, b := range letters {
				after, ahead, isAhead, behind, isBehind := labelsOf(l, a, b)
				after2, ahead2, isAhead2, behind2, isBehind2 := labelsOf(norm, a, b)
				if after != after2 || ahead != ahead2 || isAhead != isAhead2 || behind != behind2 || isBehind != isBehind2 {
					t.Fatalf("%s and %s: not the same of %s and %s", text(l), text(norm), text([]api.Layer{a}), text([]api.Layer{b}))
				}
			}
		}
	})
}

// TestReversed holds that the norm of a reversed chain is the reversed norm.
func TestReversed(t *testing.T) {
	chains(t, func(l []api.Layer) { holdNorm(t, reversed(l), reversed(chain.Norm(l))) })
}

// replaced returns the chain with other classes.
func replaced(l []api.Layer, class func(string) string) []api.Layer {
	l = slices.Clone(l)
	for i := range l {
		l[i].Class = class(l[i].Class)
	}
	return l
}

// TestReplaced holds that a chain with other classes in the place of its own has the norm that its norm has with them, two classes becoming the same one or not.
func TestReplaced(t *testing.T) {
	shorter := 0
	chains(t, func(l []api.Layer) {
		norm := chain.Norm(l)
		for _, class := range []func(string) string{
			func(string) string { return "One" },
			func(c string) string { return c + "x" },
			func(c string) string { return map[string]string{"Ca": "Cb", "Cb": "Ca"}[c] },
			func(c string) string { return string(rune('A' + c[1]%2)) },
			func(c string) string { return string(rune('A' + c[1]%3)) },
			func(c string) string { return map[bool]string{true: "Ca", false: "Cc"}[c < "Cc"] },
		} {
			want := chain.Norm(replaced(l, class))
			holdNorm(t, replaced(norm, class), want)
			if len(want) < len(norm) {
				shorter++
			}
		}
	})
	if shorter < 1000 {
		t.Errorf("only %d norms become shorter", shorter)
	}
}

// TestSidesReplaced holds the same of the sides: all of them swapped, or all the same.
func TestSidesReplaced(t *testing.T) {
	chains(t, func(l []api.Layer) {
		for _, side := range []func(bool) bool{func(out bool) bool { return !out }, func(bool) bool { return true }} {
			whole, norm := slices.Clone(l), chain.Norm(l)
			for i := range whole {
				whole[i].Out = side(whole[i].Out)
			}
			for i := range norm {
				norm[i].Out = side(norm[i].Out)
			}
			holdNorm(t, norm, chain.Norm(whole))
		}
	})
}
