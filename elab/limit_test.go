package elab

import (
	"testing"

	"chaperon/api"
)

// full returns a body of a program that has so many sites.
func full(count int) *body {
	return &body{program: &program{Prog: api.Prog{Sites: make([]api.Site, count)}, outcomes: map[types]int{}}}
}

// refused returns the fault in which something ends.
func refused(do func()) (f api.Fault) {
	defer func() {
		if r, is := recover().(refusal); is {
			f = api.Fault(r)
		}
	}()
	do()
	return api.Fault{}
}

// TestMostSites holds, from within, that there are at most 5,000 sites. No tree gets there: a node is brought to a type once at most, and the first kid of what is dynamic is not, so that a tree has fewer sites than nodes.
func TestMostSites(t *testing.T) {
	n := part{api.Node{Kind: api.KindGet, Type: "int"}, 7}
	for what, do := range map[string]func(b *body) int{
		"a cast": func(b *body) int { return b.bring(n, "?").N },
		"a get":  func(b *body) int { return b.late(n, api.KindDynGet, api.SiteGet, "?").N },
	} {
		for _, count := range []int{0, 4998, 4999} {
			b, label := full(count), 0
			if f := refused(func() { label = do(b) }); f != (api.Fault{}) || label != count+1 || len(b.Sites) != count+1 {
				t.Errorf("%s beside %d sites: %v, the label %d", what, count, f, label)
			}
		}
		b := full(5000)
		if f := refused(func() { do(b) }); f != (api.Fault{Err: api.ErrMany, At: 7}) || len(b.Sites) != 5000 {
			t.Errorf("%s beside 5,000 sites: %v", what, f)
		}
	}
}
