package elab_test

import (
	"math/rand"
	"testing"

	"chaperon/api"
	"chaperon/elab"
	"chaperon/printer"
	"chaperon/sites"
	"chaperon/table"
	"chaperon/tree"
)

// P17.3

// holdLabels holds that each label of a program is that of one node, in the order in which each node's own come after its kids', and that its site has that node's types; and that the sites are valid.
func holdLabels(t *testing.T, p api.Prog) {
	t.Helper()
	if f := sites.Check(p.Table, p.Sites); f != (api.Fault{}) {
		t.Fatalf("%v: %s", f, short(tell(p)))
	}
	met := make([]int, len(p.Sites))
	for _, b := range p.Bodies {
		visit(&b.Code, func(x *api.Node) {
			want := api.Site{}
			switch x.Kind {
			case api.KindCast:
				want = api.Site{What: api.SiteCast, From: x.Kids[0].Type, To: x.Type}
				if x.From != want.From {
					t.Fatalf("%s: from %s", short(show(*x)), x.From)
				}
			case api.KindDynGet, api.KindDynPut, api.KindDynCall, api.KindDynBin:
				want = api.Site{What: map[int]int{31: 2, 32: 3, 33: 4, 34: 5}[x.Kind], From: "?", To: "?"}
				for i, k := range x.Kids {
					if k.Type != "?" {
						t.Fatalf("%s: the kid %d is of the type %s", short(show(*x)), i, k.Type)
					}
				}
			default:
				return
			}
			if x.N < 1 || x.N > len(met) || p.Sites[x.N-1] != want {
				t.Fatalf("%s: the label %d of %v", short(show(*x)), x.N, p.Sites)
			}
			met[x.N-1]++
		})
	}
	for i, count := range met {
		if count != 1 {
			t.Fatalf("%s: the label %d of %d nodes", short(tell(p)), i+1, count)
		}
	}
}

func TestLabels(t *testing.T) {
	t.Parallel()
	labels := 0
	made(500, 100000, 1700, func(m *maker, n api.Node) {
		if p, f := elab.Elab(n); f == (api.Fault{}) {
			holdLabels(t, p)
			labels += len(p.Sites)
		}
	})
	for _, s := range samples() {
		p, _ := elab.Elab(parsed(t, s))
		holdLabels(t, p)
	}
	if labels < 10000 {
		t.Errorf("%d labels", labels)
	}
}

// P17.4

// holdStatic holds, of a program without ? whose ifs result in none, that all its casts go from classes to classes; it reports whether it is one.
func holdStatic(t *testing.T, p api.Prog) bool {
	t.Helper()
	for _, b := range p.Bodies {
		dynamic := false
		visit(&b.Code, func(x *api.Node) { dynamic = dynamic || x.Kind == api.KindIf && x.Type == "?" })
		if dynamic {
			return false
		}
	}
	for _, s := range p.Sites {
		_, from := table.Find(p.Table, s.From)
		_, to := table.Find(p.Table, s.To)
		if s.What != api.SiteCast || !from || !to {
			t.Fatalf("%v: %s", s, short(tell(p)))
		}
	}
	return true
}

// TestStatic holds programs made without ? by chance.
func TestStatic(t *testing.T) {
	t.Parallel()
	programs, casts := 0, 0
	try := func(n api.Node) {
		dynamic := false
		visit(&n, func(x *api.Node) { dynamic = dynamic || x.Type == "?" })
		if p, f := elab.Elab(n); !dynamic && f == (api.Fault{}) && holdStatic(t, p) {
			programs++
			casts += len(p.Sites)
		}
	}
	for i := range 2000 {
		m := &maker{r: rand.New(rand.NewSource(int64(i))), wild: 100000, static: true}
		m.table()
		if n := m.program(); tree.Check(n) == (api.Fault{}) {
			try(n)
			try(m.changed(n))
		}
	}
	if programs < 1000 || casts < 100 {
		t.Errorf("%d programs, %d casts", programs, casts)
	}
}

// negates reports whether a program has a - before something that may not be an int.
func negates(p api.Prog) bool {
	is := false
	for _, b := range p.Bodies {
		visit(&b.Code, func(x *api.Node) {
			is = is || x.Kind == api.KindUn && x.Text == "-" && x.Type != "int"
		})
	}
	return is
}

// TestLessTyped holds that a valid program stays valid if the type of a let becomes ?, or of several, but for a - before something that may not be an int.
func TestLessTyped(t *testing.T) {
	t.Parallel()
	held, negations := 0, 0
	hold := func(n api.Node, is bool) {
		p, f := elab.Elab(n)
		switch {
		case f == (api.Fault{}):
			held++
			holdLabels(t, p)
		case is:
			negations++
		default:
			s, _ := printer.Print(n)
			t.Fatalf("%s: %v", short(s), f)
		}
	}
	made(800, 100000, 40000, func(m *maker, n api.Node) {
		p, f := elab.Elab(n)
		if f != (api.Fault{}) {
			return
		}
		all := copied(n)
		for i, x := range preorder(&n) {
			if x.Kind != api.KindLet || x.Type == "?" {
				continue
			}
			one := copied(n)
			preorder(&one)[i].Type, preorder(&all)[i].Type = "?", "?"
			hold(one, negates(p))
		}
		hold(all, negates(p))
	})
	if held < 2000 || negations > held/10 {
		t.Errorf("%d held, %d with a -", held, negations)
	}
	// The exception: a - before ? results in an int.
	holdProg(t, prog(block(let("x", "real", api.Node{Kind: 8, N: 1}), let("y", "real", un("-", name("x"))))), "a real", "", ".main(real real) Block unit [Let unit 0 [Real real 1], Let unit 1 [Un real - [Var real 0]]]")
	holdFault(t, prog(block(let("x", "?", api.Node{Kind: 8, N: 1}), let("y", "real", un("-", name("x"))))), "?", api.ErrType, 5)
}
