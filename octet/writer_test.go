package octet_test

import (
	"bytes"
	"encoding/binary"
	"slices"
	"strings"
	"testing"

	"chaperon/api"
	"chaperon/octet"
)

// The ends of the ranges of ints, and of whole numbers; and the greatest limit of a writer.
const (
	least      = -1 << 63
	most       = 1<<63 - 1
	leastWhole = -1 << 62
	mostWhole  = 1<<62 - 1
	limit      = 1 << 20
)

// numbers returns ints of all sizes and both signs: powers of 2 with their neighbours, the ends of both ranges among them, and some between.
func numbers() []int {
	l := []int{0, 300, 123456789, 6148914691236517205, 1311768467463790320, least, least + 1, most - 1, most}
	for k := range 63 {
		for d := -1; d <= 1; d++ {
			l = append(l, 1<<k+d, -(1<<k + d), -(1<<k+d)-1)
		}
	}
	slices.Sort(l)
	return slices.Compact(l)
}

// texts returns texts of all sorts of bytes, of the lengths at which the number before them grows.
func texts() []string {
	all := make([]byte, 256)
	for i := range all {
		all[i] = byte(i)
	}
	l := []string{"", "a", "ab", "\x00", "\xff\x80", "\x80\x80", "äöü", string(all)}
	for _, n := range []int{127, 128, 129, 1000, 16383, 16384} {
		l = append(l, strings.Repeat("x", n))
	}
	return l
}

// writer is octet.NewWriter where the limit is right.
func writer(t *testing.T, most int) *octet.Writer {
	t.Helper()
	w, e := octet.NewWriter(most)
	if w == nil || e != api.OK {
		t.Fatalf("writer of %d: error %d", most, e)
	}
	return w
}

// holdErr holds an error against the one that there should be.
func holdErr(t *testing.T, what string, e, want api.Errno) {
	t.Helper()
	if e != want {
		t.Errorf("%s: error %d, not %d", what, e, want)
	}
}

// holdBytes holds what was written, or its error, against what should be there.
func holdBytes(t *testing.T, w *octet.Writer, want []byte, err api.Errno) {
	t.Helper()
	if b, e := w.Bytes(); !bytes.Equal(b, want) || e != err {
		t.Errorf("%v, error %d, not %v, error %d", b, e, want, err)
	}
}

// wrongWriters returns writers that NewWriter did not return.
func wrongWriters(t *testing.T) []*octet.Writer {
	t.Helper()
	copied := *writer(t, 9)
	return []*octet.Writer{nil, {}, new(octet.Writer), &copied}
}

// P3.1

func TestNewWriter(t *testing.T) {
	for _, n := range []int{0, 1, 9, 1000, limit - 1, limit} {
		holdBytes(t, writer(t, n), nil, api.OK)
	}
	for _, n := range []int{-1, -2, -limit, least, limit + 1, 1 << 21, 1 << 32, most} {
		if w, e := octet.NewWriter(n); w != nil || e != api.ErrRange {
			t.Errorf("%d: error %d", n, e)
		}
	}
}

func TestWritersAreApart(t *testing.T) {
	v, w := writer(t, 9), writer(t, 9)
	holdErr(t, "Num(-1)", v.Num(-1), api.ErrRange)
	holdErr(t, "Num(7)", w.Num(7), api.OK)
	holdBytes(t, v, nil, api.ErrRange)
	holdBytes(t, w, []byte{7}, api.OK)
}

func TestBytesAreNew(t *testing.T) {
	w := writer(t, 20)
	holdErr(t, "Word(abc)", w.Word("abc"), api.OK)
	b, _ := w.Bytes()
	for i := range b {
		b[i] = 99
	}
	b = append(b[:0:cap(b)], bytes.Repeat([]byte{99}, cap(b))...)
	holdBytes(t, w, []byte{3, 97, 98, 99}, api.OK)
	holdErr(t, "Num(5)", w.Num(5), api.OK)
	holdBytes(t, w, []byte{3, 97, 98, 99, 5}, api.OK)
	if bytes.ContainsFunc(b, func(r rune) bool { return r != 99 }) {
		t.Errorf("what was returned is written later: %v", b)
	}
}

func TestWrongWriters(t *testing.T) {
	for i, w := range wrongWriters(t) {
		for range 2 {
			holdBytes(t, w, nil, api.ErrNil)
			if w.Num(1) != api.ErrNil || w.Whole(1) != api.ErrNil || w.Word("a") != api.ErrNil {
				t.Errorf("writer %d writes", i)
			}
			if w.Num(-1) != api.ErrNil || w.Whole(most) != api.ErrNil || w.Word(strings.Repeat("a", limit+1)) != api.ErrNil {
				t.Errorf("writer %d tells another error", i)
			}
		}
	}
}

// TestCopiedWriter: a writer goes on as if it had not been copied.
func TestCopiedWriter(t *testing.T) {
	w := writer(t, 9)
	holdErr(t, "Num(1)", w.Num(1), api.OK)
	c := *w
	holdErr(t, "the copy's Num(2)", c.Num(2), api.ErrNil)
	holdBytes(t, &c, nil, api.ErrNil)
	holdErr(t, "Num(3)", w.Num(3), api.OK)
	holdBytes(t, w, []byte{1, 3}, api.OK)
}

// P3.2

func TestNum(t *testing.T) {
	for _, x := range []struct {
		n    int
		want []byte
	}{
		{0, []byte{0}}, {1, []byte{1}}, {127, []byte{127}},
		{128, []byte{128, 1}}, {129, []byte{129, 1}}, {255, []byte{255, 1}}, {256, []byte{128, 2}}, {300, []byte{172, 2}}, {16383, []byte{255, 127}},
		{16384, []byte{128, 128, 1}}, {1 << 56, []byte{128, 128, 128, 128, 128, 128, 128, 128, 1}},
		{1<<56 - 1, []byte{255, 255, 255, 255, 255, 255, 255, 127}}, {most, []byte{255, 255, 255, 255, 255, 255, 255, 255, 127}},
	} {
		w := writer(t, 9)
		holdErr(t, "Num", w.Num(x.n), api.OK)
		holdBytes(t, w, x.want, api.OK)
	}
}

func TestWhole(t *testing.T) {
	for _, x := range []struct {
		n    int
		want []byte
	}{
		{0, []byte{0}}, {-1, []byte{1}}, {1, []byte{2}}, {-2, []byte{3}}, {63, []byte{126}}, {-64, []byte{127}},
		{64, []byte{128, 1}}, {-65, []byte{129, 1}}, {150, []byte{172, 2}}, {-8192, []byte{255, 127}}, {8192, []byte{128, 128, 1}},
		{mostWhole, []byte{254, 255, 255, 255, 255, 255, 255, 255, 127}}, {leastWhole, []byte{255, 255, 255, 255, 255, 255, 255, 255, 127}},
	} {
		w := writer(t, 9)
		holdErr(t, "Whole", w.Whole(x.n), api.OK)
		holdBytes(t, w, x.want, api.OK)
	}
}

// TestNumbersOfLibrary holds each number against the library's, whose bytes are the same wherever both have some.
func TestNumbersOfLibrary(t *testing.T) {
	for _, n := range numbers() {
		w, want := writer(t, 9), api.OK
		var b []byte
		if n < 0 {
			want = api.ErrRange
		} else {
			b = binary.AppendUvarint(nil, uint64(n))
		}
		holdErr(t, "Num", w.Num(n), want)
		holdBytes(t, w, b, want)

		w, want, b = writer(t, 9), api.OK, nil
		if n < leastWhole || n > mostWhole {
			want = api.ErrRange
		} else {
			b = binary.AppendVarint(nil, int64(n))
		}
		holdErr(t, "Whole", w.Whole(n), want)
		holdBytes(t, w, b, want)
	}
}

func TestOutOfRange(t *testing.T) {
	for _, n := range []int{-1, -2, -300, leastWhole, least + 1, least} {
		w := writer(t, 9)
		holdErr(t, "Num", w.Num(n), api.ErrRange)
		holdBytes(t, w, nil, api.ErrRange)
	}
	for _, n := range []int{mostWhole + 1, mostWhole + 2, most - 1, most, leastWhole - 1, leastWhole - 2, least + 1, least} {
		w := writer(t, 9)
		holdErr(t, "Whole", w.Whole(n), api.ErrRange)
		holdBytes(t, w, nil, api.ErrRange)
	}
}

func TestWord(t *testing.T) {
	for _, s := range texts() {
		w := writer(t, limit)
		holdErr(t, "Word", w.Word(s), api.OK)
		holdBytes(t, w, append(binary.AppendUvarint(nil, uint64(len(s))), s...), api.OK)
	}
}

func TestInOrder(t *testing.T) {
	w := writer(t, 9)
	for i, e := range []api.Errno{w.Num(300), w.Whole(-1), w.Word("ab"), w.Word(""), w.Num(0), w.Whole(1)} {
		if e != api.OK {
			t.Errorf("call %d: error %d", i, e)
		}
	}
	holdBytes(t, w, []byte{172, 2, 1, 2, 97, 98, 0, 0, 2}, api.OK)
	holdErr(t, "a tenth byte", w.Num(0), api.ErrLong)
}

// TestLimit writes exactly as much as may be, and with one byte less room.
func TestLimit(t *testing.T) {
	writes := map[string]struct {
		write func(w *octet.Writer) api.Errno
		size  int
	}{
		"Num(0)":       {func(w *octet.Writer) api.Errno { return w.Num(0) }, 1},
		"Num(127)":     {func(w *octet.Writer) api.Errno { return w.Num(127) }, 1},
		"Num(128)":     {func(w *octet.Writer) api.Errno { return w.Num(128) }, 2},
		"Num(most)":    {func(w *octet.Writer) api.Errno { return w.Num(most) }, 9},
		"Whole(0)":     {func(w *octet.Writer) api.Errno { return w.Whole(0) }, 1},
		"Whole(-64)":   {func(w *octet.Writer) api.Errno { return w.Whole(-64) }, 1},
		"Whole(64)":    {func(w *octet.Writer) api.Errno { return w.Whole(64) }, 2},
		"Whole(least)": {func(w *octet.Writer) api.Errno { return w.Whole(leastWhole) }, 9},
		"Word()":       {func(w *octet.Writer) api.Errno { return w.Word("") }, 1},
		"Word(a)":      {func(w *octet.Writer) api.Errno { return w.Word("a") }, 2},
		"Word of 127":  {func(w *octet.Writer) api.Errno { return w.Word(strings.Repeat("a", 127)) }, 128},
		"Word of 128":  {func(w *octet.Writer) api.Errno { return w.Word(strings.Repeat("a", 128)) }, 130},
	}
	for what, x := range writes {
		for ahead := range 3 {
			w, v := writer(t, ahead+x.size), writer(t, ahead+x.size-1)
			for range ahead {
				holdErr(t, "ahead", w.Num(1), api.OK)
				holdErr(t, "ahead", v.Num(1), api.OK)
			}
			holdErr(t, what, x.write(w), api.OK)
			holdErr(t, what+" without room", x.write(v), api.ErrLong)
			holdBytes(t, v, nil, api.ErrLong)
			if b, e := w.Bytes(); len(b) != ahead+x.size || e != api.OK {
				t.Errorf("%s: %d bytes, error %d", what, len(b), e)
			}
			holdErr(t, what+" again", x.write(w), api.ErrLong)
			holdBytes(t, w, nil, api.ErrLong)
		}
	}
}

func TestNoRoom(t *testing.T) {
	for _, write := range []func(w *octet.Writer) api.Errno{
		func(w *octet.Writer) api.Errno { return w.Num(0) },
		func(w *octet.Writer) api.Errno { return w.Whole(0) },
		func(w *octet.Writer) api.Errno { return w.Word("") },
	} {
		w := writer(t, 0)
		holdBytes(t, w, nil, api.OK)
		holdErr(t, "a byte", write(w), api.ErrLong)
		holdBytes(t, w, nil, api.ErrLong)
	}
}

func TestMostRoom(t *testing.T) {
	w := writer(t, limit)
	for range limit {
		if e := w.Num(5); e != api.OK {
			t.Fatalf("error %d", e)
		}
	}
	holdBytes(t, w, bytes.Repeat([]byte{5}, limit), api.OK)
	holdErr(t, "one more", w.Num(5), api.ErrLong)
	holdBytes(t, w, nil, api.ErrLong)

	// The length of a text of so many bytes is a number of three groups.
	s := strings.Repeat("a", limit-3)
	w = writer(t, limit)
	holdErr(t, "the longest text", w.Word(s), api.OK)
	if b, e := w.Bytes(); len(b) != limit || string(b[3:]) != s || e != api.OK {
		t.Errorf("%d bytes, error %d", len(b), e)
	}
	holdErr(t, "a longer one", writer(t, limit).Word(s+"a"), api.ErrLong)
	holdErr(t, "a much longer one", writer(t, limit).Word(s+s), api.ErrLong)
}

func TestFirstErrorStays(t *testing.T) {
	for _, x := range []struct {
		write func(w *octet.Writer) api.Errno
		first api.Errno
	}{
		{func(w *octet.Writer) api.Errno { return w.Num(-1) }, api.ErrRange},
		{func(w *octet.Writer) api.Errno { return w.Whole(mostWhole + 1) }, api.ErrRange},
		{func(w *octet.Writer) api.Errno { return w.Whole(leastWhole - 1) }, api.ErrRange},
		{func(w *octet.Writer) api.Errno { return w.Word("abcd") }, api.ErrLong},
		{func(w *octet.Writer) api.Errno { return w.Num(1 << 21) }, api.ErrLong},
		{func(w *octet.Writer) api.Errno { return w.Whole(1 << 21) }, api.ErrLong},
	} {
		w := writer(t, 4)
		holdErr(t, "ahead", w.Num(1), api.OK)
		holdErr(t, "the first error", x.write(w), x.first)
		for range 2 {
			for _, e := range []api.Errno{w.Num(1), w.Whole(1), w.Word(""), w.Num(-1), w.Whole(most), w.Num(most), w.Word("abcdefgh")} {
				holdErr(t, "later", e, x.first)
			}
			holdBytes(t, w, nil, x.first)
		}
	}
}

// TestRangeAheadOfLimit: a number that is out of range is too long for nothing.
func TestRangeAheadOfLimit(t *testing.T) {
	holdErr(t, "Num", writer(t, 0).Num(-1), api.ErrRange)
	holdErr(t, "Whole", writer(t, 0).Whole(mostWhole+1), api.ErrRange)
	holdErr(t, "Whole", writer(t, 0).Whole(least), api.ErrRange)
}
