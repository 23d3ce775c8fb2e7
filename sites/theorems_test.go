package sites_test

import (
	"slices"
	"testing"

	"chaperon/api"
	"chaperon/precise"
	"chaperon/sites"
	"chaperon/subtype"
)

// P9.3

// tables returns valid tables that are written out, and many that are made by chance.
func tables(t *testing.T) [][]api.Class {
	t.Helper()
	l := made(t)
	for _, text := range []string{"", two, wide, "A me=A; B:A you=B; X me=X; Y me=Y you=Y", "A n=B x=?; B n=A x=?; C n=D x=?; D n=E x=int; E n=C x=str"} {
		l = append(l, classes(text))
		holdValid(t, l[len(l)-1])
	}
	return l
}

// casts returns all casts of a table that are valid.
func casts(of []api.Class) []api.Site {
	var l []api.Site
	for _, s := range typesOf(of) {
		for _, u := range typesOf(of) {
			cast := api.Site{What: api.SiteCast, From: s, To: u}
			if sites.Check(of, []api.Site{cast}) == (api.Fault{}) {
				l = append(l, cast)
			}
		}
	}
	return l
}

// labels returns whether the label above 0 of the site with that number may be blamed, and that below it.
func labels(t *testing.T, of []api.Class, l []api.Site, number int) (bool, bool) {
	t.Helper()
	above, err := sites.May(of, l, number)
	below, wrong := sites.May(of, l, -number)
	if err != api.OK || wrong != api.OK {
		t.Fatalf("%v: %d", l, number)
	}
	return above, below
}

// TestSameIsNotBlamed holds that where both sides are equally precise neither label may be blamed, and elsewhere one may, or both.
func TestSameIsNotBlamed(t *testing.T) {
	same, either, both := 0, 0, 0
	for _, of := range tables(t) {
		l := casts(of)
		for i, s := range l {
			above, below := labels(t, of, l, i+1)
			if precise.Same(of, s.From, s.To) != (!above && !below) {
				t.Errorf("%v: of %v the labels %t, %t may be blamed", of, s, above, below)
			}
			switch {
			case above && below:
				both++
			case above || below:
				either++
			default:
				same++
			}
		}
	}
	if same < 50 || either < 500 || both < 50 {
		t.Errorf("%d casts of which neither label may be blamed, %d of which one, %d of which both", same, either, both)
	}
}

// TestDynamicSides holds that of a cast from ? only the label above 0 may be blamed, and of a cast to ? only the one below 0.
func TestDynamicSides(t *testing.T) {
	from, to := 0, 0
	for _, of := range tables(t) {
		l := casts(of)
		for i, s := range l {
			above, below := labels(t, of, l, i+1)
			if s.From == "?" {
				from++
				if !above || below {
					t.Errorf("%v: of %v the labels %t, %t may be blamed", of, s, above, below)
				}
			}
			if s.To == "?" {
				to++
				if above || !below {
					t.Errorf("%v: of %v the labels %t, %t may be blamed", of, s, above, below)
				}
			}
		}
	}
	if from < 2000 || from != to {
		t.Errorf("%d casts from ?, %d to ?", from, to)
	}
}

// TestLessPrecise holds that the side that may be blamed is never as precise as the other one, and that of two sides of which one is more precise it is the other one.
func TestLessPrecise(t *testing.T) {
	for _, of := range tables(t) {
		l := casts(of)
		for i := range l {
			for _, label := range []int{i + 1, -i - 1} {
				may, _ := sites.May(of, l, label)
				side, other, _ := sites.Sides(l, label)
				if may == precise.Precise(of, side, other) || may && precise.More(of, side, other) == 1 || !may && precise.More(of, side, other) == -1 {
					t.Errorf("%v: of %v the label %d may be blamed: %t", of, l[i], label, may)
				}
			}
		}
	}
}

// TestOpposite holds that the sides of a label are those of the opposite one, swapped, and that a cast the other way round swaps what may be blamed.
func TestOpposite(t *testing.T) {
	for _, of := range tables(t) {
		l := casts(of)
		back := slices.Clone(l)
		for i, s := range l {
			back[i].From, back[i].To = s.To, s.From
		}
		for i := range l {
			a, b, _ := sites.Sides(l, i+1)
			if c, d, _ := sites.Sides(l, -i-1); a != d || b != c {
				t.Errorf("%v: the sides %q, %q, and %q, %q", l[i], a, b, c, d)
			}
			if c, d, _ := sites.Sides(back, -i-1); a != c || b != d {
				t.Errorf("%v: the sides %q, %q, and %q, %q the other way round", l[i], a, b, c, d)
			}
			above, below := labels(t, of, l, i+1)
			if up, down := labels(t, of, back, i+1); above != down || below != up {
				t.Errorf("%v: %v: the labels %t, %t may be blamed, and %t, %t the other way round", of, l[i], above, below, up, down)
			}
		}
	}
}

// TestDownwards holds that a class goes to one below it, if at all, by a cast of which only the label above 0 may be blamed, or neither: it has no more than that one.
func TestDownwards(t *testing.T) {
	down := 0
	for _, of := range tables(t) {
		for _, s := range casts(of) {
			if s.From == "?" || s.To == "?" || !subtype.Sub(of, s.To, s.From) {
				continue
			}
			above, below := labels(t, of, []api.Site{s}, 1)
			if below || above == precise.Same(of, s.From, s.To) {
				t.Errorf("%v: of %v the labels %t, %t may be blamed", of, s, above, below)
			}
			down++
		}
	}
	if down < 10 {
		t.Errorf("only %d casts to classes below", down)
	}
}

// TestOthers holds that of a site that is no cast only the label above 0 may be blamed.
func TestOthers(t *testing.T) {
	l := list("get ? ?; put ? ?; call ? ?; op ? ?")
	for _, of := range tables(t) {
		for i := range l {
			if above, below := labels(t, of, l, i+1); !above || below {
				t.Errorf("%v: of %v the labels %t, %t may be blamed", of, l[i], above, below)
			}
		}
	}
}
