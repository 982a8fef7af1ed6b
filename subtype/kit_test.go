package subtype

import (
	"fmt"
	"reflect"
	"slices"
	"strconv"
	"testing"

	"scarf/api"
)

// of makes a type that has its kind alone.
func of(kind int) api.Type { return api.Type{Kind: kind} }

// in makes a type of others.
func in(kind int, l ...api.Type) api.Type { return api.Type{Kind: kind, L: l} }

// by makes a type of names, and of as many types, if there are any.
func by(kind int, names string, l ...api.Type) api.Type {
	return api.Type{Kind: kind, Names: letters(names), L: l}
}

// letters makes a name of each letter.
func letters(s string) []string {
	var l []string
	for _, c := range s {
		l = append(l, string(c))
	}
	return l
}

func list(t api.Type) api.Type     { return in(api.TList, t) }
func tuple(l ...api.Type) api.Type { return in(api.TTuple, l...) }
func own(r int) api.Type           { return api.Type{Kind: api.TOwn, R: r} }
func lent(r int) api.Type          { return api.Type{Kind: api.TBorrow, R: r} }

// nothing is no type; the others are by their names.
var (
	nothing = api.Type{}
	u8      = of(api.TU8)
	u16     = of(api.TU16)
	text    = of(api.TString)
)

// fn makes a function of arguments a, b ..
func fn(name string, r api.Type, l ...api.Type) api.Sig {
	return api.Sig{Name: name, P: letters("abcdefgh"[:len(l)]), T: l, R: r}
}

// fns makes a list of functions.
func fns(l ...api.Sig) []api.Sig { return l }

// kinds tells all kinds of types, whether values may have them or not, no two of which are the same, in whatever they stand.
func kinds() []api.Type {
	var l []api.Type
	for _, kind := range []int{-1, 24, 100, -1 << 63, 1<<63 - 1} {
		l = append(l, of(kind))
	}
	for kind := range 24 {
		l = append(l, of(kind), in(kind, u8), in(kind, u16), in(kind, nothing), in(kind, u8, nothing), in(kind, nothing, u8), in(kind, u8, u8), by(kind, "a"), by(kind, "b"), by(kind, "ab"), by(kind, "ba"), by(kind, "a", u8), by(kind, "a", u16), by(kind, "ab", u8, u8))
		l = append(l, in(kind, list(u8)), in(kind, list(list(u8))), in(kind, by(api.TEnum, "a")), in(kind, by(api.TEnum, "b")), in(kind, by(api.TFlags, "a")))
	}
	for _, r := range []int{-1 << 63, -1, 1, 2, 1<<63 - 1} {
		l = append(l, api.Type{R: r}, api.Type{Kind: api.TU8, R: r}, api.Type{Kind: api.TNamed, Names: []string{"a"}, R: r}, api.Type{Kind: 99, R: r}, list(api.Type{Kind: api.TU8, R: r}))
	}
	return l
}

// short tells a thing as a text that is not long.
func short(x any) string {
	s := fmt.Sprint(x)
	return s[:min(len(s), 300)]
}

// same looks whether Same answers so, and so does the second reading.
func same(t *testing.T, a, b api.Type, want bool, m ...int) {
	t.Helper()
	if got := Same(a, b, m...); got != want || plainSame(a, b, m) != want {
		t.Errorf("%s\n%s\n%v: %v, not %v", short(a), short(b), m, got, want)
	}
}

// sigs looks likewise at Sigs.
func sigs(t *testing.T, a, b api.Sig, want bool, m ...int) {
	t.Helper()
	if got := Sigs(a, b, m...); got != want || plainSigs(a, b, m) != want {
		t.Errorf("%s\n%s\n%v: %v, not %v", short(a), short(b), m, got, want)
	}
}

// fits looks likewise at Fits.
func fits(t *testing.T, a, b api.Contract, want api.Errno) {
	t.Helper()
	if got := Fits(a, b); got != want || plainFits(a, b) != want {
		t.Errorf("%s\n%s\n%d, not %d", short(a), short(b), got, want)
	}
}

// links looks likewise at Links.
func links(t *testing.T, a, b api.Contract, want api.Errno) {
	t.Helper()
	if got := Links(a, b); got != want || plainLinks(a, b) != want {
		t.Errorf("%s\n%s\n%d, not %d", short(a), short(b), got, want)
	}
}

// copied tells a thing with lists of its own.
func copied[T any](x T) T {
	v := reflect.New(reflect.TypeFor[T]()).Elem()
	v.Set(reflect.ValueOf(x))
	part(v)
	return v.Interface().(T)
}

func part(v reflect.Value) {
	switch v.Kind() {
	case reflect.Struct:
		for i := range v.NumField() {
			part(v.Field(i))
		}
	case reflect.Slice:
		l := reflect.MakeSlice(v.Type(), v.Len(), v.Len())
		reflect.Copy(l, v)
		v.Set(l)
		for i := range v.Len() {
			part(v.Index(i))
		}
	}
}

// changes goes through all that is a thing but for one change: a number, a text, a list that is shorter, longer, or turned round.
func changes(v reflect.Value, seen func()) {
	put := func(x reflect.Value) {
		was := reflect.New(v.Type()).Elem()
		was.Set(v)
		v.Set(x)
		seen()
		v.Set(was)
	}
	switch v.Kind() {
	case reflect.Struct:
		for i := range v.NumField() {
			changes(v.Field(i), seen)
		}
	case reflect.Int:
		for _, n := range []int64{1, -1, 1 << 32, -1 << 63} {
			put(reflect.ValueOf(int(v.Int() + n)))
		}
	case reflect.String:
		for _, s := range []string{v.String() + "x", "x" + v.String(), v.String() + "\x00", "\xff"} {
			put(reflect.ValueOf(s))
		}
	case reflect.Slice:
		put(reflect.AppendSlice(reflect.MakeSlice(v.Type(), 0, 0), reflect.Append(v, reflect.Zero(v.Type().Elem()))))
		for i := range v.Len() {
			fewer := reflect.AppendSlice(reflect.MakeSlice(v.Type(), 0, 0), v.Slice(0, i))
			put(reflect.AppendSlice(fewer, v.Slice(i+1, v.Len())))
			changes(v.Index(i), seen)
		}
	}
}

// deep makes a type that stands within as many others.
func deep(t api.Type, n int) api.Type {
	for range n {
		t = list(t)
	}
	return t
}

// times makes as many types.
func times(n int, t api.Type) []api.Type { return slices.Repeat([]api.Type{t}, n) }

// some makes as many names.
func some(head string, n int) []string {
	var l []string
	for i := range n {
		l = append(l, head+strconv.Itoa(i))
	}
	return l
}
