package words_test

import (
	"strings"
	"testing"

	"chaperon/api"
	"chaperon/words"
)

// P4.3

// texts returns texts of all sorts: all of one and of two bytes, words and what is near them, long ones.
func texts() []string {
	l := []string{"", "x1Y", "Cat2", "nothing", "a_b", "null", "object", "int real", "int?", "?int", "été", "\xff\xff\xff"}
	for c := range 256 {
		one := string([]byte{byte(c)})
		l = append(l, one)
		for d := range 256 {
			l = append(l, one+string([]byte{byte(d)}))
		}
		for _, s := range reserved() {
			l = append(l, s+one, one+s, s[:len(s)-1]+one, one+s[1:])
		}
	}
	for _, s := range reserved() {
		l = append(l, s, strings.ToUpper(s), strings.ToUpper(s[:1])+s[1:], s[1:], s[:1])
	}
	for n := range 25 {
		for _, s := range []string{"a", "A", "1", "?", " "} {
			l = append(l, strings.Repeat(s, n))
		}
	}
	return l
}

// TestNameOrType holds that nothing is both, and that a reserved word is a type only as a base type.
func TestNameOrType(t *testing.T) {
	names, types := 0, 0
	for _, s := range texts() {
		name, isType := words.Name(s), words.Type(s)
		if name && isType {
			t.Errorf("%q is a name and a type", s)
		}
		if words.Key(s) && (name || isType != words.Base(s)) {
			t.Errorf("%q is reserved: name %t, type %t", s, name, isType)
		}
		if name {
			names++
		}
		if isType {
			types++
		}
	}
	if names == 0 || types == 0 {
		t.Errorf("%d names, %d types", names, types)
	}
}

// TestOneKind holds that a type is of one kind only, and what is no type of none.
func TestOneKind(t *testing.T) {
	for _, s := range texts() {
		of, kind := 0, 0
		for _, x := range []struct {
			is   bool
			kind int
		}{{words.Base(s), api.TypeBase}, {s == "?", api.TypeDyn}, {words.Class(s), api.TypeClass}} {
			if x.is {
				of++
				kind = x.kind
			}
		}
		if of > 1 || kind != words.Kind(s) || (of == 1) != words.Type(s) {
			t.Errorf("%q is of %d kinds, of kind %d, type %t", s, of, words.Kind(s), words.Type(s))
		}
	}
}

// TestTagsAndTypes holds that tags and base types correspond one to one.
func TestTagsAndTypes(t *testing.T) {
	ofWords, tags := map[string]int{}, map[int]string{}
	for _, s := range texts() {
		n, e := words.Tag(s)
		if (e == api.OK) != words.Base(s) {
			t.Errorf("%q: base type %t, error %d", s, words.Base(s), e)
		}
		if e != api.OK {
			continue
		}
		ofWords[s] = n
		if back, e := words.OfTag(n); back != s || e != api.OK {
			t.Errorf("%q: %d, %q, error %d", s, n, back, e)
		}
	}
	for n := -1000; n <= 1000; n++ {
		s, e := words.OfTag(n)
		if e != api.OK {
			continue
		}
		tags[n] = s
		if back, e := words.Tag(s); back != n || e != api.OK || !words.Base(s) {
			t.Errorf("%d: %q, %d, error %d", n, s, back, e)
		}
	}
	if len(ofWords) != 5 || len(tags) != 5 {
		t.Errorf("%d base types, %d tags", len(ofWords), len(tags))
	}
}
