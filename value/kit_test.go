package value

import (
	"fmt"
	"slices"
	"strconv"
	"testing"

	"scarf/api"
)

// of makes a type that has its kind alone.
func of(kind int) api.Type { return api.Type{Kind: kind} }

// in makes a type of others.
func in(kind int, l ...api.Type) api.Type { return api.Type{Kind: kind, L: l} }

// some makes as many names.
func some(n int) []string {
	var l []string
	for i := range n {
		l = append(l, "n"+strconv.Itoa(i))
	}
	return l
}

// record and variant make such a type of as many names as types, enum and flags of as many names.
func record(l ...api.Type) api.Type {
	return api.Type{Kind: api.TRecord, Names: some(len(l)), L: l}
}

func variant(l ...api.Type) api.Type {
	return api.Type{Kind: api.TVariant, Names: some(len(l)), L: l}
}

func enum(n int) api.Type  { return api.Type{Kind: api.TEnum, Names: some(n)} }
func flags(n int) api.Type { return api.Type{Kind: api.TFlags, Names: some(n)} }

func list(t api.Type) api.Type      { return in(api.TList, t) }
func option(t api.Type) api.Type    { return in(api.TOption, t) }
func tuple(l ...api.Type) api.Type  { return in(api.TTuple, l...) }
func result(a, b api.Type) api.Type { return in(api.TResult, a, b) }
func own(r int) api.Type            { return api.Type{Kind: api.TOwn, R: r} }
func lent(r int) api.Type           { return api.Type{Kind: api.TBorrow, R: r} }

// times makes as many of something.
func times[T any](n int, x T) []T { return slices.Repeat([]T{x}, n) }

// sig makes a function of as many arguments as types.
func sig(l ...api.Type) api.Sig {
	return api.Sig{Name: "f", P: some(len(l)), T: l}
}

// nothing is no type; the simple ones by their names.
var (
	nothing = api.Type{}
	boolean = of(api.TBool)
	s8      = of(api.TS8)
	u8      = of(api.TU8)
	s16     = of(api.TS16)
	u16     = of(api.TU16)
	s32     = of(api.TS32)
	u32     = of(api.TU32)
	s64     = of(api.TS64)
	u64     = of(api.TU64)
	char    = of(api.TChar)
	words   = of(api.TString)
)

// num makes a value of a number, str one of characters, all one of values, sum one of a case.
func num(n int) api.Val               { return api.Val{N: n} }
func all(l ...api.Val) api.Val        { return api.Val{L: l} }
func sum(n int, l ...api.Val) api.Val { return api.Val{N: n, L: l} }

func str(s string) api.Val {
	var v api.Val
	for _, c := range s {
		v.S = append(v.S, int(c))
	}
	return v
}

// chars makes a value of as many characters.
func chars(n int) api.Val { return api.Val{S: times(n, int('a'))} }

// deep makes a type that stands within as many others, deepVal a value of it.
func deep(t api.Type, n int) api.Type {
	for range n {
		t = list(t)
	}
	return t
}

func deepVal(v api.Val, n int) api.Val {
	for range n {
		v = all(v)
	}
	return v
}

// bad are types that no value may have.
func bad() []api.Type {
	return []api.Type{
		nothing, of(-1), of(22), of(23), of(api.TList), in(api.TList, u8, u8), in(api.TList, nothing), in(api.TOption, nothing), in(api.TTuple),
		in(api.TResult, u8), {Kind: api.TEnum}, {Kind: api.TFlags}, flags(33), enum(65), {Kind: api.TU8, R: 1}, own(-1), lent(1<<20 + 1), deep(u8, 16),
		{Kind: api.TRecord, Names: some(1)}, {Kind: api.TRecord, Names: []string{"a", "a"}, L: []api.Type{u8, u8}}, {Kind: api.TEnum, Names: []string{"aB"}},
		{Kind: api.TU8, L: []api.Type{u8}}, {Kind: api.TString, Names: some(1)}, tuple(times(65, u8)...), record(times(64, record(times(8, u8)...))...),
	}
}

// short tells a thing as a text that is not long; of values the first ones, as they may have no end.
func short(x any) string {
	switch y := x.(type) {
	case api.Val:
		x = cut(y, 4)
	case []api.Val:
		x = cut(all(y...), 5).L
	}
	s := fmt.Sprint(x)
	return s[:min(len(s), 300)]
}

func cut(v api.Val, left int) api.Val {
	out := api.Val{N: v.N, S: v.S[:min(len(v.S), 10)]}
	for _, x := range v.L[:min(len(v.L), left)] {
		out.L = append(out.L, cut(x, left-1))
	}
	return out
}

// equal tells whether two values are the same, nil and empty lists alike.
func equal(a, b api.Val) bool {
	return a.N == b.N && slices.Equal(a.S, b.S) && slices.EqualFunc(a.L, b.L, equal)
}

func isZero(v api.Val) bool { return v.N == 0 && v.S == nil && v.L == nil }

func sameTypes(a, b []api.Type) bool {
	return slices.EqualFunc(a, b, func(x, y api.Type) bool {
		return x.Kind == y.Kind && x.R == y.R && len(x.Names)+len(y.Names)+len(x.L)+len(y.L) == 0
	})
}

// refused looks whether each call tells that a value is none of a type, and nothing more.
func refused(t *testing.T, x api.Type, v api.Val, want api.Errno) {
	t.Helper()
	if e := Check(x, v); e != want {
		t.Errorf("%s %s: %d, not %d", short(x), short(v), e, want)
	}
	if types, n := Handles(x, v); len(types)+len(n) != 0 {
		t.Errorf("%s %s: %v %v", short(x), short(v), types, n)
	}
	for _, n := range [][]int{nil, {1}, {-1}, {1, 2}} {
		if w, e := With(x, v, n...); e != want || !isZero(w) {
			t.Errorf("%s %s: %d %s", short(x), short(v), e, short(w))
		}
	}
	if s, e := Text(x, v); e != want || s != "" {
		t.Errorf("%s %s: %d %q", short(x), short(v), e, s)
	}
	if e := Args(sig(x), v); e != want {
		t.Errorf("%s %s: %d as an argument", short(x), short(v), e)
	}
	if e := Args(sig(u8, x, u8), num(1), v, num(2)); e != want {
		t.Errorf("%s %s: %d as one of the arguments", short(x), short(v), e)
	}
}

// no looks whether a value is none of a type that may be.
func no(t *testing.T, x api.Type, v api.Val) {
	t.Helper()
	refused(t, x, v, api.ErrType)
}

// yes looks whether a value is one of a type: each call takes it.
func yes(t *testing.T, x api.Type, v api.Val) {
	t.Helper()
	if e := Check(x, v); e != api.OK {
		t.Errorf("%s %s: %d", short(x), short(v), e)
	}
	types, n := Handles(x, v)
	if len(types) != len(n) {
		t.Errorf("%s %s: %v %v", short(x), short(v), types, n)
	}
	if w, e := With(x, v, n...); e != api.OK || !equal(v, w) || !Same(v, w) {
		t.Errorf("%s %s: %d %s", short(x), short(v), e, short(w))
	}
	if s, e := Text(x, v); e != api.OK || s == "" {
		t.Errorf("%s %s: %d %q", short(x), short(v), e, s)
	}
}
