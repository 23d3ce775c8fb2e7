package coerce_test

import (
	"math/rand"
	"slices"
	"strconv"
	"sync"
	"testing"

	"chaperon/api"
	"chaperon/chain"
	"chaperon/coerce"
	"chaperon/table"
)

// normed is a value with a short chain.
func normed(v api.Value) api.Value {
	v.Chain = chain.Norm(v.Chain)
	return v
}

// holdChains does a call with whole chains and with merged ones, and holds that nobody can tell; it returns what becomes of the value, with its whole chain.
func holdChains(t *testing.T, c call, l []api.Class, v api.Value) (api.Value, int) {
	t.Helper()
	got, label := c.do(l, v, false)
	short := c
	short.object = normed(c.object)
	for _, x := range []call{c, short} {
		if mine, n := x.do(l, normed(v), true); n != label || !equal(mine, normed(got)) {
			t.Fatalf("%+v to %+v: whole %+v, %d, and merged %+v, %d, of the table %+v", x, v, got, label, mine, n, l)
		}
	}
	return got, label
}

// P16.3

// TestChains holds that calls by chance blame the same with whole chains and merged ones, and that the merged chain is the norm of the whole one.
func TestChains(t *testing.T) {
	m := &maker{r: rand.New(rand.NewSource(163))}
	shortened, blames := 0, 0
	for i := range 4000 {
		m.table()
		for range 8 {
			n := 2 + i%29
			v, c := m.value(n), m.call(n)
			got, label := holdChains(t, c, m.l, v)
			if label != 0 {
				blames++
			} else if got.Tag == 7 && len(got.Chain) > len(v.Chain) && len(normed(got).Chain) < len(got.Chain) {
				shortened++
			}
		}
	}
	if shortened < 500 || blames < 3000 {
		t.Errorf("%d chains shortened, %d labels blamed", shortened, blames)
	}
}

// TestSmallChains holds the same of all short chains of some tables.
func TestSmallChains(t *testing.T) {
	for _, text := range tables() {
		l := classes(text)
		small(5, names(l)[:2], func(x []api.Layer) {
			o := api.Value{Tag: 7, S: l[0].Name, Chain: x}
			for _, v := range []api.Value{value("int 3"), value("str a"), o, {Tag: 7, S: l[1].Name}} {
				for _, c := range []call{inward(o, "m", 0), outward(o, "m"), inward(o, "x", 0), outward(o, "x"), casting(l[1].Name, l[0].Name, 4)} {
					holdChains(t, c, l, v)
				}
			}
		})
	}
}

// alike makes another table, all of whose classes have the same members, of types that are classes or ?: little is blamed.
func (m *maker) alike() {
	m.l = nil
	for i := range 6 {
		typ := func() string { return m.one("A", "B", "C", "D", "E", "F", "?") }
		method := api.Sig{Name: "m", Params: []api.Var{{Name: "p", Type: typ()}}, Result: typ()}
		m.l = append(m.l, api.Class{Name: string(rune('A' + i)), Fields: []api.Var{{Name: "x", Type: typ()}}, Methods: []api.Sig{method}})
	}
}

// TestLives holds the same of objects that pass casts and layers again and again: whole chains grow, merged ones stay short.
func TestLives(t *testing.T) {
	m := &maker{r: rand.New(rand.NewSource(164))}
	longest := 0
	for i := range 600 {
		m.alike()
		if i%3 == 0 {
			m.table()
		}
		whole := []api.Value{m.object(3), m.object(0), m.object(0)}
		for range 40 {
			at := m.r.Intn(len(whole))
			c := m.call(0)
			c.object = whole[m.r.Intn(len(whole))]
			if len(c.object.Chain) > 60 {
				c.object.Chain = c.object.Chain[:60]
			}
			if got, label := holdChains(t, c, m.l, whole[at]); label == 0 && len(got.Chain) < 400 {
				whole[at] = got
				longest = max(longest, len(got.Chain))
			}
		}
	}
	if longest < 150 {
		t.Errorf("the longest chain has %d layers", longest)
	}
}

// TestLoop holds that a merged chain stays short, however often its object is cast to and fro.
func TestLoop(t *testing.T) {
	l := classes("A x=int; B x=int y=int")
	v := value("B")
	for n := range 5000 {
		for _, s := range []string{"A", "?"} {
			got, label := coerce.Cast(l, v, map[string]string{"A": "?", "?": "A"}[s], s, n+1, true)
			if bound, _ := chain.Bound(2); label != 0 || len(got.Chain) > bound {
				t.Fatalf("%d layers, %d, after %d casts", len(got.Chain), label, n)
			}
			v = got
		}
	}
}

// P16.4

// within reports whether all of some members are among others.
func within(l, all []api.Member) bool {
	return !slices.ContainsFunc(l, func(m api.Member) bool { return !slices.Contains(all, m) })
}

// TestShrinks holds that what an object shows only shrinks, and is what is left by the classes of its layers.
func TestShrinks(t *testing.T) {
	m := &maker{r: rand.New(rand.NewSource(165))}
	shrunk := 0
	for range 3000 {
		m.table()
		v := m.object(0)
		for range 10 {
			got, label := m.call(4).do(m.l, v, m.r.Intn(2) == 0)
			if label != 0 {
				continue
			}
			before, after := coerce.Shows(m.l, v), coerce.Shows(m.l, got)
			if !within(after, before) {
				t.Fatalf("%+v shows %v, and %+v shows %v", v, before, got, after)
			}
			for _, x := range got.Chain {
				if !within(after, table.Members(m.l, x.Class)) {
					t.Fatalf("%+v shows %v, of the table %+v", got, after, m.l)
				}
			}
			if len(after) < len(before) {
				shrunk++
			}
			v = got
		}
	}
	if shrunk < 1000 {
		t.Errorf("only %d objects show less", shrunk)
	}
}

// TestEntersAgain holds that an object enters the classes whose members it shows, no others, and that it shows these members then, and enters again and again.
func TestEntersAgain(t *testing.T) {
	m := &maker{r: rand.New(rand.NewSource(166))}
	entered, refused := 0, 0
	for range 4000 {
		m.table()
		v := m.object(3)
		for _, s := range []string{"A", "B", "C", "D", "E", "F", "Other"} {
			has := table.Members(m.l, s)
			if !within(has, coerce.Shows(m.l, v)) {
				holdBoth(t, entering(s, 5), m.l, v, value(""), 5)
				refused++
				continue
			}
			entered++
			again := v
			for n := range 4 {
				got, label := coerce.Enter(m.l, again, s, n+1, n%2 == 0)
				if label != 0 || !within(has, coerce.Shows(m.l, got)) || !within(coerce.Shows(m.l, got), has) {
					t.Fatalf("%+v in %s: %+v, %d, of the table %+v", again, s, got, label, m.l)
				}
				again = coerce.Leave(m.l, got, s, n+1, n%2 == 1)
			}
		}
		if t.Failed() {
			t.Fatalf("of the table %+v", m.l)
		}
	}
	if entered < 1000 || refused < 1000 {
		t.Errorf("%d classes entered, %d not", entered, refused)
	}
}

// TestUnchanged holds that no call changes a value that is no object: it stays, or there is none.
func TestUnchanged(t *testing.T) {
	m := &maker{r: rand.New(rand.NewSource(167))}
	stayed, blamed := 0, 0
	for range 500 {
		m.table()
		for _, v := range values() {
			for range 6 {
				got, label := m.call(6).do(m.l, v, m.r.Intn(2) == 0)
				switch {
				case label == 0 && equal(got, v):
					stayed++
				case label != 0 && equal(got, value("")):
					blamed++
				default:
					t.Fatalf("%+v became %+v, %d", v, got, label)
				}
			}
		}
	}
	if stayed < 1000 || blamed < 1000 {
		t.Errorf("%d stayed, %d labels blamed", stayed, blamed)
	}
}

// TestTogether holds that calls at the same time, with the same arguments, do not disturb each other.
func TestTogether(t *testing.T) {
	l, o, v := classes(three), roomy(value("C iC-1 oC1")), roomy(value("E iE3 oE4"))
	var all sync.WaitGroup
	for n := range 8 {
		all.Go(func() {
			for range 300 {
				if got, label := coerce.Outward(l, o, "m", v, false); label != 0 || !equal(got, value("E iE3 oE4 iD-1 oD1")) {
					t.Errorf("%+v, %d", got, label)
				}
				if got, label := coerce.Inward(l, o, "m", 0, value("int 3"), true); label != -1 || !equal(got, value("")) {
					t.Errorf("%+v, %d", got, label)
				}
				got, label := coerce.Cast(l, v, "E", "D", n+1, false)
				if want := value("E iE3 oE4 iE-" + strconv.Itoa(n+1) + " oD" + strconv.Itoa(n+1)); label != 0 || !equal(got, want) {
					t.Errorf("%+v, %d", got, label)
				}
			}
		})
	}
	all.Wait()
}
