package chain_test

import (
	"math/rand"
	"slices"
	"testing"

	"chaperon/api"
	"chaperon/chain"
)

// same reports whether two layers have the same letter.
func same(x, y api.Layer) bool {
	return x.Out == y.Out && x.Class == y.Class
}

// first returns the place of the first layer with a letter at or after a place; the length if there is none.
func first(l []api.Layer, from int, x api.Layer) int {
	for from < len(l) && !same(l[from], x) {
		from++
	}
	return from
}

// last returns the place of the last layer with a letter at or before a place; -1 if there is none.
func last(l []api.Layer, from int, x api.Layer) int {
	for from >= 0 && !same(l[from], x) {
		from--
	}
	return from
}

// lettersOf returns a layer for each letter of a chain.
func lettersOf(l []api.Layer) []api.Layer {
	var letters []api.Layer
	for i, x := range l {
		if first(l, 0, x) == i {
			letters = append(letters, x)
		}
	}
	return letters
}

// plainNorm is the norm as the chapter's terms say it: each pair of letters by itself.
func plainNorm(l []api.Layer) []api.Layer {
	kept := make([]bool, len(l)+1)
	letters := lettersOf(l)
	for _, a := range letters {
		from, to := first(l, 0, a), last(l, len(l)-1, a)
		for _, b := range letters {
			kept[first(l, from, b)] = true
			if at := last(l, to, b); at >= 0 {
				kept[at] = true
			}
		}
	}
	var norm []api.Layer
	for i, x := range l {
		if kept[i] {
			norm = append(norm, x)
		}
	}
	return norm
}

// plainClasses is the classes as the chapter says them.
func plainClasses(own string, l []api.Layer) []string {
	classes := []string{own}
	for _, x := range l {
		if !slices.Contains(classes, x.Class) {
			classes = append(classes, x.Class)
		}
	}
	return classes
}

// small calls do with each chain of at most so many layers of these letters, labelled.
func small(letters []api.Layer, most int, do func(l []api.Layer)) {
	var grow func(l []api.Layer)
	grow = func(l []api.Layer) {
		do(l)
		if len(l) == most {
			return
		}
		for _, x := range letters {
			x.Label = len(l) + 1
			grow(append(slices.Clone(l), x))
		}
	}
	grow(nil)
}

// allSmall calls do with each small chain of one letter to five.
func allSmall(do func(l []api.Layer)) {
	for n, most := range []int{0, 12, 11, 8, 6, 5} {
		small(alphabet(n), most, do)
	}
}

// maker makes chains by chance.
type maker struct{ r *rand.Rand }

// chain makes a chain of n layers of these letters, some of them much rarer than others, with any labels.
func (m maker) chain(letters []api.Layer, n int) []api.Layer {
	var l []api.Layer
	rare := m.r.Intn(3)
	for range n {
		at := m.r.Intn(len(letters))
		for range rare {
			at = min(at, m.r.Intn(len(letters)))
		}
		x := letters[at]
		x.Label = m.r.Intn(2*n+1) - n
		l = append(l, x)
	}
	return l
}

// made calls do with many chains that are made by chance, always the same ones, of one letter to forty.
func made(do func(m maker, l []api.Layer)) {
	m := maker{rand.New(rand.NewSource(10))}
	for i := range 3000 {
		letters := alphabet(1 + i%40)
		m.r.Shuffle(len(letters), func(i, k int) { letters[i], letters[k] = letters[k], letters[i] })
		do(m, m.chain(letters, m.r.Intn(120)))
	}
}

// TestSmall holds the norms of all small chains against a second reading of the chapter.
func TestSmall(t *testing.T) {
	chains, shortened := 0, 0
	allSmall(func(l []api.Layer) {
		want := plainNorm(l)
		holdNorm(t, l, want)
		chains++
		if len(want) < len(l) {
			shortened++
		}
		if t.Failed() {
			t.FailNow()
		}
	})
	if chains < 20000 || shortened < 5000 {
		t.Errorf("%d chains, %d of them shortened", chains, shortened)
	}
}

// TestSmallParts holds Add and Merge of all parts of small chains.
func TestSmallParts(t *testing.T) {
	for n, most := range []int{0, 9, 8, 6} {
		small(alphabet(n), most, func(l []api.Layer) {
			want := plainNorm(l)
			for at := range len(l) + 1 {
				holdMerge(t, l[:at], l[at:], want)
			}
			if len(l) > 0 {
				holdAdd(t, l[:len(l)-1], l[len(l)-1], want)
			}
			if t.Failed() {
				t.FailNow()
			}
		})
	}
}

// TestByChance holds all calls against a second reading of the chapter, for long chains.
func TestByChance(t *testing.T) {
	shortened := 0
	made(func(m maker, l []api.Layer) {
		want := plainNorm(l)
		holdAll(t, l, want)
		if len(want) < len(l) {
			shortened++
		}
		own := "X"
		if m.r.Intn(2) == 0 {
			own = "Ca"
		}
		seen := own
		if len(l) > 0 {
			seen = l[len(l)-1].Class
		}
		holdClasses(t, own, l, seen, plainClasses(own, l)...)
		if t.Failed() {
			t.FailNow()
		}
	})
	if shortened < 1000 {
		t.Errorf("only %d chains are shortened", shortened)
	}
}

// TestLongByChance holds the norms of a few very long chains.
func TestLongByChance(t *testing.T) {
	m := maker{rand.New(rand.NewSource(11))}
	for _, n := range []int{1, 2, 7, 30, 80} {
		l := m.chain(alphabet(n), 20000)
		holdAll(t, l, plainNorm(l))
	}
}

// TestAgain holds that a call returns the same whenever it is made.
func TestAgain(t *testing.T) {
	made(func(m maker, l []api.Layer) {
		norm, classes := chain.Norm(l), chain.Classes("X", l)
		for range 3 {
			if !slices.Equal(chain.Norm(l), norm) || !slices.Equal(chain.Classes("X", l), classes) {
				t.Fatalf("%s: not the same again", text(l))
			}
		}
	})
}
