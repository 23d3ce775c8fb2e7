package sites_test

import (
	"math/rand"
	"slices"
	"strconv"
	"strings"
	"testing"

	"chaperon/api"
	"chaperon/consist"
	"chaperon/precise"
	"chaperon/sites"
	"chaperon/subtype"
	"chaperon/table"
)

// plain is a table whose chapter is read once more, each site by itself.
type plain struct{ of []api.Class }

// wrong returns what is wrong with a site.
func (p plain) wrong(s api.Site) api.Errno {
	isCast := s.What == api.SiteCast
	if !isCast && !slices.Contains(dynamicKinds(), s.What) {
		return api.ErrArg
	}
	if !isCast && (s.From != "?" || s.To != "?") {
		return api.ErrArg
	}
	if isCast && (!consist.Goes(p.of, s.From, s.To) || subtype.Sub(p.of, s.From, s.To)) {
		return api.ErrType
	}
	return api.OK
}

// check returns the first fault of a list.
func (p plain) check(l []api.Site) api.Fault {
	for i, s := range l {
		if err := p.wrong(s); err != api.OK {
			return api.Fault{Err: err, At: i}
		}
	}
	return api.Fault{}
}

// may reports whether a site's label may be blamed: that above 0, or that below it.
func (p plain) may(s api.Site, above bool) bool {
	switch {
	case s.What != api.SiteCast:
		return above
	case above:
		return !precise.Precise(p.of, s.From, s.To)
	}
	return !precise.Precise(p.of, s.To, s.From)
}

// text returns a label in words.
func (p plain) text(s api.Site, number int, above bool) string {
	words := map[int]string{api.SiteCast: "cast", api.SiteGet: "get", api.SitePut: "put", api.SiteCall: "call", api.SiteBin: "op"}
	word, is := words[s.What]
	if !is {
		word = "?"
	}
	sign := "-"
	if above {
		sign = "+"
	}
	return strconv.Itoa(number) + " " + sign + " " + word + " " + s.From + " > " + s.To
}

// maker makes tables and sites by chance.
type maker struct{ r *rand.Rand }

// typ returns a type: mostly a class or ?.
func (m maker) typ(n int) string {
	switch k := m.r.Intn(20); {
	case k < 8:
		return "?"
	case k < 18:
		return "C" + strconv.Itoa(m.r.Intn(n))
	}
	return bases()[m.r.Intn(5)]
}

// own returns the members that a class has beside its superclass's, of few names.
func (m maker) own(c *api.Class, above []api.Class, n int) {
	for _, name := range []string{"x", "y", "z"} {
		if _, is := table.Arity(above, c.Super, name); is || m.r.Intn(4) == 0 {
			continue
		}
		// The same name is mostly the same sort of a member in all classes.
		if name == "x" != (m.r.Intn(15) == 0) {
			c.Fields = append(c.Fields, api.Var{Name: name, Type: m.typ(n)})
			continue
		}
		sig := api.Sig{Name: name, Result: m.typ(n)}
		if name == "y" != (m.r.Intn(15) == 0) {
			sig.Params = append(sig.Params, api.Var{Name: "p", Type: m.typ(n)})
		}
		c.Methods = append(c.Methods, sig)
	}
}

// table makes a valid table of n classes, in any order.
func (m maker) table(n int) []api.Class {
	var l []api.Class
	for i := range n {
		c := api.Class{Name: "C" + strconv.Itoa(i)}
		if i > 0 && m.r.Intn(4) == 0 {
			c.Super = "C" + strconv.Itoa(m.r.Intn(i))
		}
		m.own(&c, l, n)
		l = append(l, c)
	}
	m.r.Shuffle(n, func(i, k int) { l[i], l[k] = l[k], l[i] })
	return l
}

// made returns valid tables that are made by chance, always the same ones.
func made(t *testing.T) [][]api.Class {
	t.Helper()
	m := maker{rand.New(rand.NewSource(9))}
	var tables [][]api.Class
	for i := range 400 {
		n := i % 8
		if i%200 == 0 {
			n = 20
		}
		l := m.table(n)
		holdValid(t, l)
		tables = append(tables, l)
	}
	return tables
}

// sites makes n sites: those of a valid list, mostly.
func (m maker) sites(p plain, n int) []api.Site {
	kinds := append([]int{0, 6, -1}, dynamicKinds()...)
	types := append(typesOf(p.of), "", "Zz")
	var l []api.Site
	for len(l) < n {
		s := api.Site{What: api.SiteCast, From: types[m.r.Intn(len(types))], To: types[m.r.Intn(len(types))]}
		switch m.r.Intn(6) {
		case 0:
			s.What = kinds[m.r.Intn(len(kinds))]
		case 1:
			s = api.Site{What: dynamicKinds()[m.r.Intn(4)], From: "?", To: "?"}
		}
		if p.wrong(s) == api.OK || m.r.Intn(n*8) == 0 {
			l = append(l, s)
		}
	}
	return l
}

// TestByChance holds all calls against a second reading of the chapter, for lists of all lengths.
func TestByChance(t *testing.T) {
	m := maker{rand.New(rand.NewSource(90))}
	seen := map[api.Errno]int{}
	for i, of := range made(t) {
		p := plain{of}
		for k := range 5 {
			l := m.sites(p, 1+(i+k*k*k)%40)
			want := p.check(l)
			holdCheck(t, of, l, want.Err, want.At)
			seen[want.Err]++
			for n := 1; n <= len(l); n += 1 + n/4 {
				s := l[n-1]
				holdLabel(t, of, l, n, s.From, s.To, p.may(s, true), p.text(s, n, true))
				holdLabel(t, of, l, -n, s.To, s.From, p.may(s, false), p.text(s, n, false))
			}
			holdNoLabel(t, of, l, len(l)+1)
			holdNoLabel(t, of, l, -len(l)-1)
		}
		if t.Failed() {
			t.FailNow()
		}
	}
	if seen[api.OK] < 200 || seen[api.ErrArg] < 100 || seen[api.ErrType] < 100 {
		t.Errorf("the faults of the lists: %v", seen)
	}
}

// TestAllPairsByChance holds the casts of all pairs of types, one by one and all in one list.
func TestAllPairsByChance(t *testing.T) {
	most := 0
	for _, of := range made(t) {
		p := plain{of}
		var valid []api.Site
		for _, s := range typesOf(of) {
			for _, u := range typesOf(of) {
				cast := api.Site{What: api.SiteCast, From: s, To: u}
				err := p.wrong(cast)
				holdCheck(t, of, []api.Site{cast}, err, 0)
				if err == api.OK {
					valid = append(valid, cast)
				}
			}
		}
		twice := append(slices.Clone(valid), valid...)
		holdCheck(t, of, twice, api.OK, 0)
		holdCheck(t, of, append(twice, api.Site{What: api.SiteCast, From: "?", To: "?"}), api.ErrType, len(twice))
		most = max(most, len(valid))
	}
	if most < 40 {
		t.Errorf("at most %d casts are valid", most)
	}
}

// TestRead holds that a label's text tells its number, its sign, and its site.
func TestRead(t *testing.T) {
	m := maker{rand.New(rand.NewSource(91))}
	for _, of := range made(t)[:80] {
		p := plain{of}
		l := m.sites(p, 30)
		for label := -30; label <= 30; label++ {
			text, err := sites.Text(l, label)
			if label == 0 || err != api.OK {
				if label != 0 || text != "" {
					t.Errorf("%d: %q %v", label, text, err)
				}
				continue
			}
			w := strings.Split(text, " ")
			if len(w) != 6 || w[4] != ">" {
				t.Fatalf("%d: %q", label, text)
			}
			n, _ := strconv.Atoi(w[0])
			if w[1] == "-" {
				n = -n
			}
			if n != label {
				t.Errorf("%d: %q", label, text)
			}
			from, to := w[3], w[5]
			if label < 0 {
				from, to = to, from
			}
			if a, b, _ := sites.Sides(l, label); a != from || b != to {
				t.Errorf("%d: %q, and the sides %q, %q", label, text, a, b)
			}
		}
	}
}
