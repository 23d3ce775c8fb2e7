package tree_test

import (
	"testing"

	"chaperon/api"
	"chaperon/tree"
)

// P12.3

// holdPlaces holds that the tree at a place has its kids after it, each after all of the one before it, and returns the first place behind it.
func holdPlaces(t *testing.T, all, n api.Node, place int) int {
	t.Helper()
	holdAt(t, all, place, n)
	next := place + 1
	for _, k := range n.Kids {
		next = holdPlaces(t, all, k, next)
	}
	if next != place+tree.Count(n) {
		t.Errorf("%s: the tree at %d ends at %d", show(all), place, next)
	}
	return next
}

// TestEachPlace holds that each node is at one place: there are as many as Count tells.
func TestEachPlace(t *testing.T) {
	trees, nodes := 0, 0
	changed(func(m maker, n api.Node) {
		size := tree.Count(n)
		if size > 150 {
			return
		}
		end := holdPlaces(t, n, n, 0)
		holdNowhere(t, n, end)
		if end != size {
			t.Errorf("%s: %d nodes, and places up to %d", show(n), size, end)
		}
		if t.Failed() {
			t.FailNow()
		}
		trees++
		nodes += size
	})
	if trees < 10000 || nodes < 200000 {
		t.Errorf("%d trees, %d nodes", trees, nodes)
	}
}

// replaced returns a tree with another one at a place.
func replaced(n api.Node, place int, by api.Node) api.Node {
	n = full(n)
	if place == 0 {
		return by
	}
	*preorder(n)[place].node = by
	return n
}

// isExpression reports whether a node is an expression.
func isExpression(n api.Node) bool {
	return n.Kind >= 7 && n.Kind <= 29 && n.Kind != 15
}

// TestReplaced holds that a valid tree with another valid expression at the place of one is valid, or too large or too deep.
func TestReplaced(t *testing.T) {
	seen := map[api.Errno]int{}
	var before []api.Node
	made(func(m maker, n api.Node) {
		l := preorder(n)
		if len(l) > 5000 {
			return
		}
		var own []api.Node
		for place, s := range l {
			if !isExpression(*s.node) {
				continue
			}
			own = append(own, *s.node)
			if len(before) == 0 || m.r.Intn(len(l)) > 5 {
				continue
			}
			by := before[m.r.Intn(len(before))]
			if m.r.Intn(20) == 0 {
				by = row(40 + m.r.Intn(20))
			}
			x := replaced(n, place, by)
			depth := tree.Depth(x)
			f := tree.Check(x)
			seen[f.Err]++
			switch {
			case tree.Count(x) != len(l)-tree.Count(*s.node)+tree.Count(by):
				t.Fatalf("%s: %d nodes", show(x), tree.Count(x))
			case f.Err == api.OK && depth <= 60 && tree.Count(x) <= 5000:
			case f.Err == api.ErrDeep && depth > 60 && tree.Count(x) <= 5000:
			case f.Err == api.ErrMany && tree.Count(x) > 5000:
			default:
				t.Fatalf("%s: %v", show(x), f)
			}
			holdAt(t, x, place, by)
		}
		before = own
	})
	if seen[api.OK] < 5000 || seen[api.ErrDeep] < 50 {
		t.Errorf("the faults: %v", seen)
	}
}

// TestReplacedByAll holds that each expression may be replaced by each other one.
func TestReplacedByAll(t *testing.T) {
	n := prog(class(method(param(), block(expressions()...))), block(append(expressions(), letOf(unit()))...))
	for place, s := range preorder(n) {
		for _, by := range append(expressions(), row(20), txt(api.KindReal, "nan")) {
			x := replaced(n, place, by)
			want := api.Fault{}
			switch {
			case place == 0:
				want = api.Fault{Err: api.ErrForm}
			case !isExpression(*s.node):
				continue
			}
			if f := tree.Check(x); f != want {
				t.Errorf("%s: %v", show(x), f)
			}
		}
	}
}
