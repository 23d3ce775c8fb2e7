package octet_test

import (
	"bytes"
	"slices"
	"strconv"
	"testing"

	"chaperon/api"
	"chaperon/octet"
)

// P3.4

// part is something that is written, and read: which of the three kinds, its number, its text.
type part struct {
	kind byte // n, w, t
	n    int
	s    string
}

func write(w *octet.Writer, p part) api.Errno {
	switch p.kind {
	case 'n':
		return w.Num(p.n)
	case 'w':
		return w.Whole(p.n)
	}
	return w.Word(p.s)
}

func read(r *octet.Reader, kind byte) part {
	switch kind {
	case 'n':
		return part{kind: kind, n: r.Num()}
	case 'w':
		return part{kind: kind, n: r.Whole()}
	}
	return part{kind: kind, s: r.Word(most)}
}

// parts returns all numbers as both kinds, as far as they are in range, with short texts between them; and all texts.
func parts() []part {
	var l []part
	for i, n := range numbers() {
		if n >= 0 {
			l = append(l, part{kind: 'n', n: n})
		}
		if leastWhole <= n && n <= mostWhole {
			l = append(l, part{kind: 'w', n: n})
		}
		l = append(l, part{kind: 't', s: "abcdefgh"[i%9:]})
	}
	for _, s := range texts() {
		l = append(l, part{kind: 't', s: s})
	}
	return l
}

// name tells a part, but not the whole of a long text.
func (p part) name() string {
	return string(p.kind) + " " + strconv.Itoa(p.n) + " " + strconv.Quote(p.s[:min(len(p.s), 9)])
}

// written returns the bytes of some parts, and the place of each.
func written(t *testing.T, l []part) ([]byte, []int) {
	t.Helper()
	w := writer(t, limit)
	var places []int
	for _, p := range l {
		b, _ := w.Bytes()
		places = append(places, len(b))
		if e := write(w, p); e != api.OK {
			t.Fatalf("%s: error %d", p.name(), e)
		}
	}
	b, e := w.Bytes()
	holdErr(t, "Bytes", e, api.OK)
	return b, places
}

func TestReadAsWritten(t *testing.T) {
	l := parts()
	for _, p := range l {
		b, _ := written(t, []part{p})
		r := octet.NewReader(b)
		if got := read(r, p.kind); got != p {
			t.Errorf("%s is read as %s", p.name(), got.name())
		}
		holdEnd(t, p.name(), r, api.Fault{}, 0)
	}
	b, places := written(t, l)
	r := octet.NewReader(b)
	for i, p := range l {
		holdEnd(t, p.name(), r, fault(api.ErrLong, places[i]), len(b)-places[i])
		if got := read(r, p.kind); got != p {
			t.Errorf("%s is read as %s", p.name(), got.name())
		}
	}
	holdEnd(t, "all", r, api.Fault{}, 0)
}

// TestCutOff reads what was written up to each place: what is there whole is read, the next one is short.
func TestCutOff(t *testing.T) {
	l := []part{{kind: 'n', n: 300}, {kind: 't', s: "abc"}, {kind: 'w', n: -1}, {kind: 't'}, {kind: 'w', n: leastWhole}, {kind: 't', s: string(zeros(130))}, {kind: 'n', n: most}, {kind: 'n'}}
	b, places := written(t, l)
	for end := range b {
		r := octet.NewReader(b[:end:end])
		for i, p := range l {
			if i+1 < len(l) && places[i+1] <= end {
				if got := read(r, p.kind); got != p {
					t.Errorf("%d bytes: %s is read as %s", end, p.name(), got.name())
				}
				continue
			}
			if got := read(r, p.kind); got != (part{kind: p.kind}) {
				t.Errorf("%d bytes: %s is read as %s", end, p.name(), got.name())
			}
			holdDead(t, end, r, fault(api.ErrShort, places[i]))
			break
		}
	}
}

// allBytes returns all bytes of up to that many letters.
func allBytes(letters []byte, size int) [][]byte {
	l := [][]byte{nil}
	for i := 0; i < len(l); i++ {
		if len(l[i]) == size {
			break
		}
		for _, c := range letters {
			l = append(l, append(l[i][:len(l[i]):len(l[i])], c))
		}
	}
	return l
}

// TestOneForm reads all sorts of bytes as all sorts of things: what is read without a fault, written again, is the same bytes.
func TestOneForm(t *testing.T) {
	kinds := []string{"n", "w", "t", "nw", "nt", "tn", "tt"}
	l := append(allBytes([]byte{0, 1, 2, 127, 128, 129, 255}, 5), nearNumbers()...)
	for _, b := range l {
		for _, k := range kinds {
			r := octet.NewReader(b)
			w := writer(t, limit)
			for _, kind := range []byte(k) {
				write(w, read(r, kind))
			}
			again, e := w.Bytes()
			if f := r.End(); f == (api.Fault{}) && (e != api.OK || !bytes.Equal(again, b)) {
				t.Errorf("%v, read as %s, is written as %v, error %d", b, k, again, e)
			}
		}
	}
}

// nearNumbers returns the bytes of long numbers, with each of their last bytes changed.
func nearNumbers() [][]byte {
	var l [][]byte
	for _, head := range [][]byte{zeros(7), ones(7), zeros(8), ones(8), zeros(9), ones(9)} {
		for c := range 256 {
			l = append(l, append(head[:len(head):len(head)], byte(c)))
		}
	}
	return l
}

// TestAsWords holds a number of any bytes against the words of the chapter, one after the other.
func TestAsWords(t *testing.T) {
	for _, b := range append(allBytes([]byte{0, 1, 127, 128, 255}, 4), nearNumbers()...) {
		want, size, err := number(b)
		r := octet.NewReader(b)
		n, f := r.Num(), r.End()
		switch {
		case n != want:
			t.Errorf("%v: %d, not %d", b, n, want)
		case err != api.OK && f != fault(err, 0):
			t.Errorf("%v: fault %d at %d, not %d", b, f.Err, f.At, err)
		case err == api.OK && r.Rest() != len(b)-size:
			t.Errorf("%v: %d left", b, r.Rest())
		}
	}
}

// number returns the number that is at the beginning of b, and of how many bytes it is; or why there is none.
func number(b []byte) (n, size int, err api.Errno) {
	last := slices.IndexFunc(b, func(c byte) bool { return c < 128 })
	switch {
	case len(b) > 9 && (last < 0 || last > 8):
		return 0, 0, api.ErrForm
	case last < 0:
		return 0, 0, api.ErrShort
	case last > 0 && b[last] == 0:
		return 0, 0, api.ErrForm
	}
	for i := last; i >= 0; i-- {
		n = n*128 + int(b[i])%128
	}
	return n, last + 1, api.OK
}
