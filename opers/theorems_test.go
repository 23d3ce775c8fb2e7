package opers_test

import (
	"sync"
	"testing"

	"chaperon/api"
	"chaperon/opers"
	"chaperon/words"
)

// ofType returns the samples that are values of a type, which has some.
func ofType(t *testing.T, s string) []api.Value {
	t.Helper()
	var l []api.Value
	for _, v := range samples() {
		if base, e := words.OfTag(v.Tag); s == "" || e == api.OK && base == s {
			l = append(l, v)
		}
	}
	if len(l) == 0 {
		t.Errorf("no value of %q", s)
	}
	return l
}

// holdDone holds that what was done is a value of a type, in a form of its own, or a trap.
func holdDone(t *testing.T, what string, v api.Value, trap int, e api.Errno, result string) {
	t.Helper()
	if e != api.OK {
		t.Errorf("%s: error %d", what, e)
		return
	}
	if trap != 0 {
		if trap != api.TrapZero && trap != api.TrapLong && trap != api.TrapRange || !equal(v, nothing()) {
			t.Errorf("%s: trap %d, %+v", what, trap, v)
		}
		return
	}
	tag, _ := words.Tag(result)
	plain := api.Value{Tag: v.Tag}
	switch v.Tag {
	case api.TagInt:
		plain.N = v.N
	case api.TagBool:
		plain.N = v.N & 1
	case api.TagReal:
		plain.Bits = v.Bits
	case api.TagStr:
		plain.S = v.S
	}
	if v.Tag != tag || !equal(v, plain) || len(v.S) > 1000 {
		t.Errorf("%s: %+v is no %s", what, v, result)
	}
}

// P15.5

// TestAllowedTwo holds that what the types allow can be done with values of these types.
func TestAllowedTwo(t *testing.T) {
	types, allowed, tried := append(baseTypes(), "?", "A"), 0, map[[2]string]bool{}
	for _, op := range binaries() {
		if op == "&&" || op == "||" {
			continue
		}
		for _, left := range types {
			for _, right := range types {
				o, e := opers.Bin(op, left, right)
				if e != api.OK || o.Dyn {
					continue
				}
				allowed++
				if !tried[[2]string{op, o.Arg}] {
					tried[[2]string{op, o.Arg}] = true
					holdAllowed(t, op, o)
				}
			}
		}
	}
	// Of two any seven types; of three, two, one that are taken, each as itself and beside ?, on either side.
	if allowed != 2*7*7+3*3+3*6+2*6+3 {
		t.Errorf("%d are allowed", allowed)
	}
}

// holdAllowed does an operation with all values of the type to which its operands go.
func holdAllowed(t *testing.T, op string, o api.Oper) {
	t.Helper()
	for _, a := range ofType(t, o.Arg) {
		for _, b := range ofType(t, o.Arg) {
			v, trap, e := opers.Do(op, a, b)
			holdDone(t, op+" of "+o.Arg, v, trap, e, o.Result)
		}
	}
}

func TestAllowedOne(t *testing.T) {
	allowed := 0
	for _, s := range append(baseTypes(), "?", "A") {
		for _, op := range allSigns() {
			if o, e := opers.Un(op, s); e == api.OK {
				allowed++
				for _, a := range ofType(t, o.Arg) {
					v, e := opers.Turn(op, a)
					holdDone(t, op+s, v, 0, e, o.Result)
				}
			}
			if o, e := opers.Conv(op, s); e == api.OK {
				allowed++
				for _, a := range ofType(t, o.Arg) {
					v, trap, e := opers.Change(op, a)
					holdDone(t, op+" of "+s, v, trap, e, o.Result)
				}
			}
		}
	}
	if allowed != 3+2+6 {
		t.Errorf("%d are allowed", allowed)
	}
}

// TestRefused holds that what is refused is refused regardless of all fields but the tag: what is done is what the types of the tags allow.
func TestRefused(t *testing.T) {
	l := append(samples(), full(tagged(0)), full(tagged(5)), full(tagged(6)), full(tagged(8)), full(tagged(-1)))
	for _, a := range l {
		left, _ := words.OfTag(a.Tag)
		for _, b := range l {
			right, _ := words.OfTag(b.Tag)
			for _, op := range append(calculations(), "<", "<=") {
				_, want := opers.Bin(op, left, right)
				if _, _, e := opers.Do(op, a, b); e != want {
					t.Errorf("%+v %s %+v: error %d", a, op, b, e)
				}
			}
		}
		for _, op := range []string{"-", "!"} {
			_, want := opers.Un(op, left)
			if _, e := opers.Turn(op, a); e != want {
				t.Errorf("%s %+v: error %d", op, a, e)
			}
		}
		for _, name := range conversionNames() {
			_, want := opers.Conv(name, left)
			if _, _, e := opers.Change(name, a); e != want {
				t.Errorf("%s of %+v: error %d", name, a, e)
			}
		}
	}
}

// TestNaN holds that a NaN is neither the same as itself, nor less, and that all else is the same as itself.
func TestNaN(t *testing.T) {
	for _, a := range samples() {
		isNaN := a.Tag == api.TagReal && a.Bits&^minus > inf
		isNone := a.Tag < api.TagInt || a.Tag > api.TagObj
		holdSame(t, a, a, !isNaN && !isNone)
		if isNaN {
			for _, op := range []string{"==", "<", "<="} {
				holdDo(t, op, a, a, truth(0), 0, api.OK)
			}
			holdDo(t, "!=", a, a, truth(1), 0, api.OK)
		}
	}
}

// TestOrdersFit holds that the orders fit with one another: at most is less or the same, different is not the same.
func TestOrdersFit(t *testing.T) {
	for _, a := range samples() {
		for _, b := range samples() {
			same, different := done(t, "==", a, b), done(t, "!=", a, b)
			if same == different || same != opers.Same(a, b) || same != opers.Same(b, a) {
				t.Errorf("%+v and %+v: the same %t, different %t", a, b, same, different)
			}
			if a.Tag != b.Tag || a.Tag != api.TagInt && a.Tag != api.TagReal {
				continue
			}
			less, atMost, more := done(t, "<", a, b), done(t, "<=", a, b), done(t, "<", b, a)
			if atMost != (less || same) || less && (same || more) {
				t.Errorf("%+v and %+v: the same %t, less %t, at most %t, more %t", a, b, same, less, atMost, more)
			}
		}
	}
}

// done returns the truth that an operation results in.
func done(t *testing.T, op string, a, b api.Value) bool {
	t.Helper()
	v, trap, e := opers.Do(op, a, b)
	if v.Tag != api.TagBool || trap != 0 || e != api.OK {
		t.Errorf("%+v %s %+v: %+v, trap %d, error %d", a, op, b, v, trap, e)
	}
	return v.N == 1
}

// TestFirstValues holds that a base type's first value is one of that type, with which all can be done that the type allows.
func TestFirstValues(t *testing.T) {
	for _, s := range baseTypes() {
		v, e := opers.Zero(s)
		holdDone(t, "zero of "+s, v, 0, e, s)
		if !opers.Same(v, v) {
			t.Errorf("the first value of %s is not the same as itself", s)
		}
	}
	for _, s := range []string{"?", "A", "Cat"} {
		if v, e := opers.Zero(s); !opers.Same(v, null()) || e != api.OK {
			t.Errorf("%s: %+v, error %d", s, v, e)
		}
	}
}

// TestTogether makes calls at the same time, all of which return what each returns alone.
func TestTogether(t *testing.T) {
	var all sync.WaitGroup
	for range 8 {
		all.Go(func() {
			for n := range 300 {
				holdDo(t, "/", whole(n), whole(0), nothing(), api.TrapZero, api.OK)
				holdDo(t, "+", letters(n), letters(n), letters(2*n), 0, api.OK)
				holdChange(t, "int", point(inf), nothing(), api.TrapRange, api.OK)
				holdBin(t, "+", "?", "str", of("str"), api.OK)
			}
		})
	}
	all.Wait()
}
