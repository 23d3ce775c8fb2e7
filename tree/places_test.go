package tree_test

import (
	"math"
	"slices"
	"testing"

	"chaperon/api"
	"chaperon/tree"
)

// P12.2

// holdSize holds how large and how deep a tree is.
func holdSize(t *testing.T, n api.Node, count, depth int) {
	t.Helper()
	if c, d := tree.Count(n), tree.Depth(n); c != count || d != depth {
		t.Errorf("%s: %d nodes, depth %d, and not %d, %d", show(n), c, d, count, depth)
	}
}

// holdAt holds what is at a place.
func holdAt(t *testing.T, n api.Node, place int, want api.Node) {
	t.Helper()
	if x, err := tree.At(n, place); !equal(x, want) || err != api.OK {
		t.Errorf("%s at %d: %s, error %d, and not %s", show(n), place, show(x), err, show(want))
	}
}

// holdNowhere holds that there are no such places.
func holdNowhere(t *testing.T, n api.Node, places ...int) {
	t.Helper()
	for _, place := range places {
		if x, err := tree.At(n, place); !equal(x, api.Node{}) || x.Kids != nil || err != api.ErrRange {
			t.Errorf("%s at %d: %s, error %d", show(n), place, show(x), err)
		}
	}
}

// holdSame holds whether trees are the same, in both orders, and that each of them is the same as itself.
func holdSame(t *testing.T, a, b api.Node, want bool) {
	t.Helper()
	if tree.Same(a, b) != want || tree.Same(b, a) != want {
		t.Errorf("%s, %s: not %v", show(a), show(b), want)
	}
	if !tree.Same(a, a) || !tree.Same(b, b) || !tree.Same(a, full(a)) || !tree.Same(full(b), b) {
		t.Errorf("%s, %s: not the same as itself", show(a), show(b))
	}
}

func TestSizes(t *testing.T) {
	u := unit()
	holdSize(t, api.Node{}, 1, 1)
	holdSize(t, u, 1, 1)
	holdSize(t, kid(-7, u), 2, 2)
	holdSize(t, kid(34, u, u, u), 4, 2)
	holdSize(t, block(block(), block(u), u), 5, 3)
	holdSize(t, block(block(u), block(block(u), u), u), 8, 4)
	holdSize(t, block(row(7), row(3)), 11, 8)
	holdSize(t, block(row(3), row(7)), 11, 8)
	holdSize(t, block(row(3), row(7), row(3)), 14, 8)
	holdSize(t, start(), 2, 2)
	holdSize(t, api.Node{Kids: []api.Node{}}, 1, 1)
}

func TestPlaces(t *testing.T) {
	a, b, c := txt(1, "a"), txt(2, "b"), txt(3, "c")
	n := txt(4, "d", txt(5, "e", a, b), txt(6, "f", txt(7, "g", c)), a)
	for place, want := range []api.Node{n, n.Kids[0], a, b, n.Kids[1], n.Kids[1].Kids[0], c, a} {
		holdAt(t, n, place, want)
	}
	holdNowhere(t, n, 8, 9, 100, -1, -2, -8, math.MaxInt, math.MinInt, 1<<32, -1<<32)
	holdAt(t, api.Node{}, 0, api.Node{})
	holdNowhere(t, api.Node{}, 1, -1, math.MaxInt, math.MinInt)
	all := api.Node{Kind: 99, Text: "t", Type: "y", From: "f", N: -5, Kids: []api.Node{{Kind: -1, Text: "\x00", Type: "T", From: "F", N: math.MinInt}}}
	holdAt(t, all, 0, all)
	holdAt(t, all, 1, all.Kids[0])
}

func TestSame(t *testing.T) {
	u, e := unit(), api.Node{}
	holdSame(t, e, e, true)
	holdSame(t, e, u, false)
	// One field at a time, at the root, below it, behind other nodes, and ahead of them.
	base := api.Node{Kind: 1, Text: "a", Type: "b", From: "c", N: 2}
	for _, x := range []api.Node{
		{Kind: 2, Text: "a", Type: "b", From: "c", N: 2}, {Kind: 1, Text: "A", Type: "b", From: "c", N: 2}, {Kind: 1, Text: "a", Type: "", From: "c", N: 2}, {Kind: 1, Text: "a", Type: "b", From: "cc", N: 2}, {Kind: 1, Text: "a", Type: "b", From: "c", N: -2},
		{Kind: 1, Text: "b", Type: "a", From: "c", N: 2}, {Kind: 1, Text: "a", Type: "c", From: "b", N: 2}, {Kind: 2, Text: "a", Type: "b", From: "c", N: 1}, {Kind: 1, Text: "ab", Type: "", From: "c", N: 2}, {Kind: 1, Text: "a", Type: "b", From: "c", N: 2, Kids: times(1, e)},
	} {
		holdSame(t, base, x, false)
		holdSame(t, block(base), block(x), false)
		holdSame(t, block(u, block(u, base)), block(u, block(u, x)), false)
		holdSame(t, block(block(base, u), u), block(block(x, u), u), false)
		holdSame(t, block(u, x, base), block(u, base, x), false)
		holdSame(t, block(u, x, base), block(u, x, base), true)
	}
	// The same nodes, one after the other, and another tree.
	l := []api.Node{
		block(u, u, u), block(u, u), block(u), block(),
		block(block(u), u), block(block(), u, u), block(block(u, u)), block(block(block(u))), block(u, block(u)), block(u, u, block()), block(block(), block(u)), block(block(), block()), block(block(block())),
	}
	for i, a := range l {
		for k, b := range l {
			holdSame(t, a, b, i == k)
		}
	}
	// A list that is nil equals an empty one.
	holdSame(t, api.Node{Kids: []api.Node{}}, api.Node{}, true)
	holdSame(t, block(api.Node{Kids: make([]api.Node, 0, 9)}, u), block(api.Node{}, u), true)
}

// comb is nodes below one another, each with others before and after them.
func comb(n int, before, after []api.Node) api.Node {
	x := unit()
	for range n - 1 {
		x = block(list(before, x, after)...)
	}
	return x
}

// TestLarge holds trees that are far deeper or wider than valid ones.
func TestLarge(t *testing.T) {
	const n = 300000
	u := times(1, unit())
	last := txt(77, "last")
	other := func(x api.Node) api.Node {
		x.Kids = list(x.Kids, last)
		return x
	}
	for i, x := range []api.Node{row(n), comb(n, nil, u), comb(n, u, nil), comb(n, u, u), block(times(n, unit())...)} {
		size := []int{n, 2*n - 1, 2*n - 1, 3*n - 2, n + 1}[i]
		depth := []int{n, n, n, n, 2}[i]
		if c, d := tree.Count(x), tree.Depth(x); c != size || d != depth {
			t.Errorf("%d: %d nodes, depth %d, and not %d, %d", i, c, d, size, depth)
		}
		y, err := tree.At(x, 0)
		if err != api.OK || !tree.Same(x, y) || tree.Count(y) != size || tree.Depth(y) != depth {
			t.Errorf("%d at 0: error %d", i, err)
		}
		if y, err := tree.At(x, size-1); err != api.OK || !equal(y, unit()) {
			t.Errorf("%d at the end: error %d", i, err)
		}
		if _, err := tree.At(x, size); err != api.ErrRange {
			t.Errorf("%d behind the end: error %d", i, err)
		}
		if tree.Same(x, other(x)) || tree.Same(other(x), x) || !tree.Same(other(x), other(x)) {
			t.Errorf("%d: the same with one node more", i)
		}
		if f := tree.Check(x); f != (api.Fault{Err: api.ErrMany}) {
			t.Errorf("%d: %v", i, f)
		}
	}
}

// TestPlacesByChance holds all calls for many trees against the second reading.
func TestPlacesByChance(t *testing.T) {
	before := unit()
	same := 0
	changed(func(m maker, n api.Node) {
		l := preorder(n)
		depth := 0
		for i, s := range l {
			depth = max(depth, s.above+1)
			if len(l) < 60 || m.r.Intn(len(l)) < 10 {
				holdAt(t, n, i, *s.node)
			}
		}
		holdSize(t, n, len(l), depth)
		holdNowhere(t, n, len(l), len(l)+1+m.r.Intn(5), -1-m.r.Intn(5))
		is := equal(before, n)
		holdSame(t, before, n, is)
		if is {
			same++
		}
		before = n
		if t.Failed() {
			t.FailNow()
		}
	})
	if same < 100 {
		t.Errorf("%d are the same", same)
	}
}

// Memory

// roomy is a tree whose lists have more room than they need, with something in it.
func roomy(n api.Node) api.Node {
	kids := n.Kids
	n.Kids = make([]api.Node, 0, len(kids)+2)
	for _, k := range kids {
		n.Kids = append(n.Kids, roomy(k))
	}
	room := n.Kids[:cap(n.Kids)]
	for i := len(kids); i < len(room); i++ {
		room[i] = txt(-9, "room", unit())
	}
	return n
}

// rooms holds that the room of all lists is as roomy left it.
func rooms(n api.Node) bool {
	room := n.Kids[len(n.Kids):cap(n.Kids)]
	for _, x := range room {
		if !equal(x, txt(-9, "room", unit())) {
			return false
		}
	}
	return len(room) >= 2 && !slices.ContainsFunc(n.Kids, func(k api.Node) bool { return !rooms(k) })
}

// spoil writes all over a tree's lists and their room.
func spoil(n *api.Node) {
	n.Kids = n.Kids[:cap(n.Kids)]
	for i := range n.Kids {
		spoil(&n.Kids[i])
		n.Kids[i].Kind, n.Kids[i].Text, n.Kids[i].Kids = -99, "spoilt", nil
	}
}

// clean holds that no list of a tree has anything in its room.
func clean(n api.Node) bool {
	for i, k := range n.Kids[:cap(n.Kids)] {
		if i >= len(n.Kids) && !equal(k, api.Node{}) || !clean(k) {
			return false
		}
	}
	return true
}

// TestMemory holds that arguments stay as they are, their room included, and that what is returned is new.
func TestMemory(t *testing.T) {
	trees := 0
	changed(func(m maker, n api.Node) {
		if trees++; trees%5 > 0 {
			return
		}
		arg, want := roomy(n), full(n)
		tree.Check(arg)
		tree.Count(arg)
		tree.Depth(arg)
		tree.Same(arg, arg)
		for range 5 {
			place := m.r.Intn(len(preorder(n)))
			x, _ := tree.At(arg, place)
			y, _ := tree.At(arg, place)
			if !clean(x) {
				t.Fatalf("%s at %d has something in the room of its lists", show(n), place)
			}
			spoil(&x)
			if !equal(y, *preorder(n)[place].node) {
				t.Fatalf("%s at %d: two results share memory", show(n), place)
			}
		}
		if !equal(arg, want) || !rooms(arg) {
			t.Fatalf("%s was changed", show(want))
		}
		spoil(&arg)
	})
}

// TestKept holds that a result stays as it is when the argument changes.
func TestKept(t *testing.T) {
	made(func(m maker, n api.Node) {
		place := m.r.Intn(len(preorder(n)))
		want := full(*preorder(n)[place].node)
		x, _ := tree.At(n, place)
		spoil(&n)
		if !equal(x, want) {
			t.Fatalf("%s was changed", show(want))
		}
	})
}

// TestSharedLists holds that of lists that an argument has twice a result has two.
func TestSharedLists(t *testing.T) {
	shared := block(txt(1, "a", unit()), unit())
	n := block(shared, kid(3, shared), shared)
	x, _ := tree.At(n, 0)
	if !equal(x, n) {
		t.Fatal(show(x))
	}
	spoil(&x.Kids[0])
	if !equal(x.Kids[1], kid(3, shared)) || !equal(x.Kids[2], shared) || !equal(n, block(shared, kid(3, shared), shared)) {
		t.Error("lists of a result are shared")
	}
	// No list reaches into another one.
	x, _ = tree.At(n, 0)
	x.Kids[0].Kids = append(x.Kids[0].Kids, txt(9, "more"))
	x.Kids[0].Kids[0].Kids = append(x.Kids[0].Kids[0].Kids, txt(9, "more"))
	x.Kids[1].Kids = append(x.Kids[1].Kids, txt(9, "more"))
	if !equal(x, block(block(txt(1, "a", unit(), txt(9, "more")), unit(), txt(9, "more")), kid(3, shared, txt(9, "more")), shared)) {
		t.Error(show(x))
	}
}

// TestAgain holds that a call returns the same whenever it is made.
func TestAgain(t *testing.T) {
	changed(func(m maker, n api.Node) {
		f, count, depth := tree.Check(n), tree.Count(n), tree.Depth(n)
		place := m.r.Intn(count)
		x, _ := tree.At(n, place)
		for range 2 {
			y, err := tree.At(n, place)
			if tree.Check(n) != f || tree.Count(n) != count || tree.Depth(n) != depth || !equal(x, y) || err != api.OK {
				t.Fatalf("%s: not the same again", show(n))
			}
		}
	})
}
