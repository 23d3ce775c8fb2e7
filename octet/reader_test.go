package octet_test

import (
	"bytes"
	"math"
	"strings"
	"testing"

	"chaperon/api"
	"chaperon/octet"
)

// fault makes a fault.
func fault(e api.Errno, at int) api.Fault {
	return api.Fault{Err: e, At: at}
}

// ones returns n groups whose bits are 1, with 128 added to each, followed by others.
func ones(n int, then ...byte) []byte {
	return append(bytes.Repeat([]byte{255}, n), then...)
}

// zeros returns n groups whose bits are 0, with 128 added to each, followed by others.
func zeros(n int, then ...byte) []byte {
	return append(bytes.Repeat([]byte{128}, n), then...)
}

// holdEnd holds a reader's end, and how many bytes are left, against what should be.
func holdEnd(t *testing.T, what any, r *octet.Reader, want api.Fault, rest int) {
	t.Helper()
	for range 2 {
		if f := r.End(); f != want {
			t.Errorf("%v: ends with %d at %d, not with %d at %d", what, f.Err, f.At, want.Err, want.At)
		}
		if n := r.Rest(); n != rest {
			t.Errorf("%v: %d left, not %d", what, n, rest)
		}
	}
}

// holdDead holds that a reader with a fault reads nothing any more, and keeps that fault.
func holdDead(t *testing.T, what any, r *octet.Reader, want api.Fault) {
	t.Helper()
	holdEnd(t, what, r, want, 0)
	for _, n := range []int{r.Num(), r.Whole(), len(r.Word(0)), len(r.Word(math.MaxInt)), len(r.Word(-1))} {
		if n != 0 {
			t.Errorf("%v: %d is read after a fault", what, n)
		}
	}
	holdEnd(t, what, r, want, 0)
}

// P3.3

func TestReadNum(t *testing.T) {
	for _, x := range []struct {
		b    []byte
		n    int
		rest int
	}{
		{[]byte{0}, 0, 0}, {[]byte{1}, 1, 0}, {[]byte{127}, 127, 0}, {[]byte{128, 1}, 128, 0}, {[]byte{172, 2}, 300, 0}, {[]byte{255, 127}, 16383, 0},
		{[]byte{128, 128, 1}, 16384, 0}, {zeros(8, 1), 1 << 56, 0}, {ones(8, 1), 1<<57 - 1, 0}, {ones(8, 127), most, 0},
		{[]byte{0, 0}, 0, 1}, {[]byte{5, 128, 0}, 5, 2}, {[]byte{128, 1, 255}, 128, 1}, {ones(8, 127, 0, 255), most, 2},
	} {
		r := octet.NewReader(x.b)
		if n := r.Num(); n != x.n {
			t.Errorf("%v: %d, not %d", x.b, n, x.n)
		}
		want := api.Fault{}
		if x.rest > 0 {
			want = fault(api.ErrLong, len(x.b)-x.rest)
		}
		holdEnd(t, x.b, r, want, x.rest)
	}
}

func TestReadWhole(t *testing.T) {
	for _, x := range []struct {
		b []byte
		n int
	}{
		{[]byte{0}, 0}, {[]byte{1}, -1}, {[]byte{2}, 1}, {[]byte{3}, -2}, {[]byte{126}, 63}, {[]byte{127}, -64}, {[]byte{128, 1}, 64}, {[]byte{129, 1}, -65},
		{[]byte{172, 2}, 150}, {append([]byte{254}, ones(7, 127)...), mostWhole}, {ones(8, 127), leastWhole},
	} {
		r := octet.NewReader(x.b)
		if n := r.Whole(); n != x.n {
			t.Errorf("%v: %d, not %d", x.b, n, x.n)
		}
		holdEnd(t, x.b, r, api.Fault{}, 0)
	}
}

func TestReadWord(t *testing.T) {
	for _, x := range []struct {
		b    []byte
		most int
		s    string
		rest int
	}{
		{[]byte{0}, 0, "", 0}, {[]byte{0}, 5, "", 0}, {[]byte{0, 97}, 1, "", 1},
		{[]byte{1, 97}, 1, "a", 0}, {[]byte{2, 97, 98}, 2, "ab", 0}, {[]byte{2, 97, 98}, 3, "ab", 0}, {[]byte{2, 97, 98}, most, "ab", 0},
		{[]byte{2, 97, 98, 99}, 2, "ab", 1}, {[]byte{2, 0, 255}, 2, "\x00\xff", 0}, {[]byte{3, 128, 128, 128}, 3, "\x80\x80\x80", 0},
		{append([]byte{127}, strings.Repeat("x", 127)...), 127, strings.Repeat("x", 127), 0},
		{append([]byte{128, 1}, strings.Repeat("x", 130)...), 128, strings.Repeat("x", 128), 2},
	} {
		r := octet.NewReader(x.b)
		if s := r.Word(x.most); s != x.s {
			t.Errorf("%v: %q, not %q", x.b, s, x.s)
		}
		want := api.Fault{}
		if x.rest > 0 {
			want = fault(api.ErrLong, len(x.b)-x.rest)
		}
		holdEnd(t, x.b, r, want, x.rest)
	}
}

// wrongNumber is bytes that no number begins with, and why.
type wrongNumber struct {
	b   []byte
	err api.Errno
}

func wrongNumbers() []wrongNumber {
	return []wrongNumber{
		{nil, api.ErrShort}, {[]byte{128}, api.ErrShort}, {[]byte{255}, api.ErrShort}, {[]byte{172, 130}, api.ErrShort},
		{zeros(8), api.ErrShort}, {ones(8), api.ErrShort}, {zeros(9), api.ErrShort}, {ones(9), api.ErrShort},
		{[]byte{128, 0}, api.ErrForm}, {[]byte{255, 0}, api.ErrForm}, {[]byte{129, 0, 1}, api.ErrForm}, {[]byte{128, 128, 0}, api.ErrForm}, {[]byte{255, 255, 0, 97}, api.ErrForm},
		{zeros(7, 0), api.ErrForm}, {zeros(8, 0), api.ErrForm}, {ones(8, 0), api.ErrForm}, {ones(8, 0, 1), api.ErrForm},
		{zeros(9, 0), api.ErrForm}, {zeros(9, 1), api.ErrForm}, {zeros(10), api.ErrForm}, {ones(9, 0), api.ErrForm}, {ones(9, 1), api.ErrForm},
		{ones(9, 127), api.ErrForm}, {ones(10), api.ErrForm}, {ones(10, 1), api.ErrForm}, {ones(300), api.ErrForm},
	}
}

// TestWrongNumbers reads them as each kind of thing, at the beginning and after others.
func TestWrongNumbers(t *testing.T) {
	reads := map[string]func(r *octet.Reader) bool{
		"Num":      func(r *octet.Reader) bool { return r.Num() == 0 },
		"Whole":    func(r *octet.Reader) bool { return r.Whole() == 0 },
		"Word":     func(r *octet.Reader) bool { return r.Word(most) == "" },
		"Word(-1)": func(r *octet.Reader) bool { return r.Word(-1) == "" },
	}
	for _, x := range wrongNumbers() {
		for what, isNone := range reads {
			for ahead := range 3 {
				b := append(bytes.Repeat([]byte{172, 2}, ahead), x.b...)
				r := octet.NewReader(b)
				for range ahead {
					r.Num()
				}
				if !isNone(r) {
					t.Errorf("%s of %v: something", what, b)
				}
				holdDead(t, b, r, fault(x.err, 2*ahead))
			}
		}
	}
}

func TestWrongTexts(t *testing.T) {
	for _, x := range []struct {
		b    []byte
		most int
		err  api.Errno
	}{
		{[]byte{1, 97}, 0, api.ErrLong}, {[]byte{2, 97, 98}, 1, api.ErrLong}, {[]byte{3, 97, 98, 99}, 2, api.ErrLong},
		{append([]byte{128, 1}, strings.Repeat("x", 128)...), 127, api.ErrLong},
		{[]byte{2, 97}, 5, api.ErrShort}, {[]byte{2, 97}, 2, api.ErrShort}, {[]byte{1}, 1, api.ErrShort}, {append([]byte{128, 1}, strings.Repeat("x", 127)...), 128, api.ErrShort},
		// The length is held against most ahead of the bytes.
		{[]byte{2, 97}, 1, api.ErrLong}, {[]byte{1}, 0, api.ErrLong}, {[]byte{127}, 126, api.ErrLong}, {ones(8, 127), most - 1, api.ErrLong},
		{ones(8, 127), most, api.ErrShort}, {ones(8, 127, 97, 98), most, api.ErrShort}, {append([]byte{254}, ones(7, 127)...), most, api.ErrShort},
		// Nothing is as short as less than nothing.
		{[]byte{0}, -1, api.ErrLong}, {[]byte{0, 97}, -300, api.ErrLong}, {[]byte{0}, least, api.ErrLong}, {[]byte{1, 97}, -1, api.ErrLong},
	} {
		for ahead := range 3 {
			b := append(bytes.Repeat([]byte{7}, ahead), x.b...)
			r := octet.NewReader(b)
			for range ahead {
				r.Num()
			}
			if s := r.Word(x.most); s != "" {
				t.Errorf("%v: %q", b, s)
			}
			holdDead(t, b, r, fault(x.err, ahead))
		}
	}
}

func TestReadInOrder(t *testing.T) {
	r := octet.NewReader([]byte{172, 2, 1, 2, 97, 98, 0, 2})
	holdEnd(t, "at first", r, fault(api.ErrLong, 0), 8)
	if n := r.Num(); n != 300 {
		t.Errorf("%d", n)
	}
	holdEnd(t, "after a number", r, fault(api.ErrLong, 2), 6)
	if n := r.Whole(); n != -1 {
		t.Errorf("%d", n)
	}
	holdEnd(t, "after a whole number", r, fault(api.ErrLong, 3), 5)
	if s := r.Word(2); s != "ab" {
		t.Errorf("%q", s)
	}
	holdEnd(t, "after a text", r, fault(api.ErrLong, 6), 2)
	if s := r.Word(0); s != "" {
		t.Errorf("%q", s)
	}
	if n := r.Whole(); n != 1 {
		t.Errorf("%d", n)
	}
	holdEnd(t, "at last", r, api.Fault{}, 0)
	if n := r.Num(); n != 0 {
		t.Errorf("%d", n)
	}
	holdDead(t, "after the last", r, fault(api.ErrShort, 8))
}

func TestReadersAreApart(t *testing.T) {
	b := []byte{3, 4}
	q, r := octet.NewReader(b), octet.NewReader(b)
	if s := q.Word(9); s != "" {
		t.Errorf("%q", s)
	}
	if n := r.Num(); n != 3 {
		t.Errorf("%d", n)
	}
	holdEnd(t, "one", q, fault(api.ErrShort, 0), 0)
	holdEnd(t, "another", r, fault(api.ErrLong, 1), 1)
}

// TestGivenBytes: what a reader was given is looked at once only, and not beyond its end.
func TestGivenBytes(t *testing.T) {
	b := []byte{3, 97, 98, 99, 7, 8}
	r := octet.NewReader(b[:5])
	b[0], b[1], b[4] = 0, 0, 0
	s := r.Word(3)
	b[2] = 0
	if n := r.Num(); s != "abc" || n != 7 {
		t.Errorf("%q, %d", s, n)
	}
	holdEnd(t, "after all", r, api.Fault{}, 0)
	if !bytes.Equal(b, []byte{0, 0, 0, 99, 0, 8}) {
		t.Errorf("changed: %v", b)
	}

	b = []byte{128, 1}
	r = octet.NewReader(b[:1])
	if n := r.Num(); n != 0 {
		t.Errorf("%d", n)
	}
	holdDead(t, "cut off within a number", r, fault(api.ErrShort, 0))
	r = octet.NewReader([]byte{2, 97, 98}[:2])
	if s := r.Word(2); s != "" {
		t.Errorf("%q", s)
	}
	holdDead(t, "cut off within a text", r, fault(api.ErrShort, 0))
}

func TestNothingToRead(t *testing.T) {
	for _, b := range [][]byte{nil, {}, zeros(2)[:0]} {
		r := octet.NewReader(b)
		if r == nil {
			t.Fatal("no reader")
		}
		holdEnd(t, "nothing", r, api.Fault{}, 0)
		if n := r.Num(); n != 0 {
			t.Errorf("%d", n)
		}
		holdDead(t, "nothing", r, fault(api.ErrShort, 0))
	}
}

func TestWrongReaders(t *testing.T) {
	fresh, faulty, good := *octet.NewReader([]byte{1, 97}), *octet.NewReader(nil), octet.NewReader([]byte{1, 97, 5})
	good.Num()
	used := *good
	for i, r := range []*octet.Reader{nil, {}, new(octet.Reader), &fresh, &faulty, &used} {
		holdDead(t, i, r, fault(api.ErrNil, 0))
	}
	// The one that was copied goes on.
	if n := good.Num(); n != 97 {
		t.Errorf("%d", n)
	}
	holdEnd(t, "the one that was copied", good, fault(api.ErrLong, 2), 1)
}
