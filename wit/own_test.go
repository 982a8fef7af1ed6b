package wit

import (
	"reflect"
	"strings"
	"testing"

	"scarf/api"
	"scarf/lex"
)

// arrays goes through what lies behind all of a thing's lists, with their room.
func arrays(v reflect.Value, seen func(from, to uintptr)) {
	switch v.Kind() {
	case reflect.Struct:
		for i := range v.NumField() {
			arrays(v.Field(i), seen)
		}
	case reflect.Slice:
		if v.Cap() > 0 {
			from := v.Pointer()
			seen(from, from+uintptr(v.Cap())*v.Type().Elem().Size())
		}
		for i := range v.Len() {
			arrays(v.Index(i), seen)
		}
	}
}

// What is parsed shares no memory: no two lists of one answer, nor of two.
func TestOwnLists(t *testing.T) {
	p, _, e := Parse(full)
	q, _, f := Parse(full)
	if e != api.OK || f != api.OK {
		t.Fatal(e, f)
	}
	type span struct{ from, to uintptr }
	var l []span
	seen := func(from, to uintptr) {
		for _, x := range l {
			if from < x.to && x.from < to {
				t.Error("shared")
			}
		}
		l = append(l, span{from, to})
	}
	arrays(reflect.ValueOf(p), seen)
	arrays(reflect.ValueOf(q), seen)
	if len(l) < 70 {
		t.Error(len(l))
	}
}

// scribble changes all that a thing's lists have, and leaves no two alike.
func scribble(v reflect.Value) {
	switch v.Kind() {
	case reflect.Struct:
		for i := range v.NumField() {
			scribble(v.Field(i))
		}
	case reflect.Slice:
		for i := range v.Len() {
			scribble(v.Index(i))
		}
	case reflect.Int:
		v.SetInt(v.Int() + 100)
	case reflect.String:
		v.SetString(v.String() + "x")
	}
}

func TestOwnAnswers(t *testing.T) {
	p, _, _ := Parse(full)
	q, _, _ := Parse(full)
	text, _ := Print(p)
	scribble(reflect.ValueOf(&p).Elem())
	if r, _, _ := Parse(full); !same(q, r) || same(p, q) {
		t.Error("an answer is not the asker's own")
	}
	if again, _ := Print(q); again != text {
		t.Error(again)
	}
}

// roomy copies a thing so that behind each list's length there is what may not be.
func roomy(v reflect.Value) {
	switch v.Kind() {
	case reflect.Struct:
		for i := range v.NumField() {
			roomy(v.Field(i))
		}
	case reflect.Slice:
		l := reflect.MakeSlice(v.Type(), v.Len()+3, v.Len()+3)
		reflect.Copy(l, v)
		for i := v.Len(); i < l.Len(); i++ {
			scribble(l.Index(i))
		}
		for i := range v.Len() {
			roomy(l.Index(i))
		}
		v.Set(l.Slice(0, v.Len()))
	}
}

// behind tells all that stands in a thing's lists, and behind their length.
func behind(v reflect.Value) []any {
	var out []any
	switch v.Kind() {
	case reflect.Struct:
		for i := range v.NumField() {
			out = append(out, behind(v.Field(i))...)
		}
	case reflect.Slice:
		whole := v.Slice(0, v.Cap())
		out = append(out, v.Len(), whole.Len())
		for i := range whole.Len() {
			out = append(out, behind(whole.Index(i))...)
		}
	default:
		out = append(out, v.Interface())
	}
	return out
}

func TestKeepsArguments(t *testing.T) {
	p, _, _ := Parse(full)
	text, _ := Print(p)
	q := p
	roomy(reflect.ValueOf(&q).Elem())
	before := behind(reflect.ValueOf(q))
	for range 2 {
		s, e := Print(q)
		if s != text || e != api.OK || Check(q) != api.OK {
			t.Error(s, e)
		}
		if !reflect.DeepEqual(before, behind(reflect.ValueOf(q))) {
			t.Error("changed")
		}
	}
}

func TestCalm(t *testing.T) {
	var pieces []string
	for _, s := range strings.Fields(allWords) {
		if len(s) > 3 {
			pieces = append(pieces, s)
		}
	}
	pieces = append(pieces, ":", ";", ",", ".", "/", "{", "}", "(", ")", "<", ">", "=", "@", "_", "->", "1.2.3", "a", "%own", "f32", "$", "\x00", "\xff", "//", "/*", "*/", "\n", " ", "%", "-", "1", "é")
	m := newMaker(5)
	for range 8000 {
		s := ""
		if m.Intn(2) == 0 {
			s = of(m, "package a:b;", in(""), "package a:b; world w {", "package a:b; interface i { type t = ", "package a:b; interface i { resource r {")
		}
		for range m.Intn(12) {
			s += of(m, pieces...) + of(m, "", " ")
		}
		p, at, e := Parse(s)
		if e == api.OK != (Check(p) == api.OK) || at < 0 || at > len(s) || e != api.OK && !same(p, api.Package{}) || e == api.OK && at != 0 {
			t.Fatalf("%q %d %d", s, at, e)
		}
		if again, where, f := Parse(s); !same(p, again) || at != where || e != f {
			t.Fatalf("%q is parsed otherwise", s)
		}
	}
	for _, s := range []string{strings.Repeat("list<", 1600), strings.Repeat("{", 8192), "package a:b; interface i {" + strings.Repeat("record r {", 800), "package a:b; world w {" + strings.Repeat("import ", 1000), in("type t = " + strings.Repeat("tuple<", 1000)), strings.Repeat("/*", 4096)} {
		if p, _, e := Parse(s); e == api.OK || !same(p, api.Package{}) {
			t.Error(s[:40], e)
		}
	}
	for range 8000 {
		var p api.Package
		for range 40 {
			m.spoil(reflect.ValueOf(&p).Elem())
		}
		s, e := Print(p)
		if f := Check(p); e != f || e == api.OK == (s == "") || e != plainCheck(p) {
			t.Fatal(p)
		}
		if e == api.OK && lex.Name(p.Space) && len(s) <= api.MaxWit {
			if q, _, f := Parse(s); f != api.OK || !same(p, q) {
				t.Fatal(s)
			}
		}
	}
}
