package ctype

import (
	"fmt"
	"slices"
	"strconv"
	"testing"

	"scarf/api"
)

// of makes a type that has its kind alone.
func of(kind int) api.Type { return api.Type{Kind: kind} }

// in makes a type of others.
func in(kind int, l ...api.Type) api.Type { return api.Type{Kind: kind, L: l} }

// by makes a type of names, and of as many types, if there are any.
func by(kind int, names []string, l ...api.Type) api.Type {
	return api.Type{Kind: kind, Names: names, L: l}
}

// handle makes a type of a resource's number.
func handle(kind, r int) api.Type { return api.Type{Kind: kind, R: r} }

// some makes as many names.
func some(n int) []string {
	var l []string
	for i := range n {
		l = append(l, "n"+strconv.Itoa(i))
	}
	return l
}

// record and variant make such a type of as many names as types.
func record(l ...api.Type) api.Type  { return by(api.TRecord, some(len(l)), l...) }
func variant(l ...api.Type) api.Type { return by(api.TVariant, some(len(l)), l...) }

func list(t api.Type) api.Type      { return in(api.TList, t) }
func option(t api.Type) api.Type    { return in(api.TOption, t) }
func tuple(l ...api.Type) api.Type  { return in(api.TTuple, l...) }
func result(a, b api.Type) api.Type { return in(api.TResult, a, b) }

// times makes as many types.
func times(n int, t api.Type) []api.Type { return slices.Repeat([]api.Type{t}, n) }

// sig makes a function of as many arguments as types.
func sig(r api.Type, l ...api.Type) api.Sig {
	return api.Sig{Name: "f", P: some(len(l)), T: l, R: r}
}

// nothing is no type; the simple ones by their names.
var (
	nothing = api.Type{}
	boolean = of(api.TBool)
	s8      = of(api.TS8)
	u8      = of(api.TU8)
	s16     = of(api.TS16)
	u16     = of(api.TU16)
	s32     = of(api.TS32)
	u32     = of(api.TU32)
	s64     = of(api.TS64)
	u64     = of(api.TU64)
	char    = of(api.TChar)
	text    = of(api.TString)
	own     = of(api.TOwn)
	borrow  = of(api.TBorrow)
)

// deep makes a type that stands within as many others.
func deep(t api.Type, n int) api.Type {
	for range n {
		t = list(t)
	}
	return t
}

// parts makes a type of as many types, itself among them.
func parts(n int) api.Type {
	if n == 1 {
		return u8
	}
	if n <= 65 {
		return tuple(times(n-1, u8)...)
	}
	var l []api.Type
	for left := n - 1; left > 0; left -= 65 {
		l = append(l, parts(min(left, 65)))
	}
	return tuple(l...)
}

// short tells a thing as a text that is not long.
func short(x any) string {
	s := fmt.Sprint(x)
	return s[:min(len(s), 300)]
}

// equal tells whether two types are the same, nil and empty lists alike.
func equal(a, b api.Type) bool {
	return a.Kind == b.Kind && a.R == b.R && slices.Equal(a.Names, b.Names) && slices.EqualFunc(a.L, b.L, equal)
}

// mayNot looks whether values can't have a type: Check says so, and nothing is told of it.
func mayNot(t *testing.T, x api.Type) {
	t.Helper()
	bytes, at := Case(x)
	if Check(x) != api.ErrArg || Size(x) != 0 || Align(x) != 0 || len(Places(x)) != 0 || bytes != 0 || at != 0 || len(Flat(x)) != 0 {
		t.Errorf("%s: %d %d %d %v %d %d %v", short(x), Check(x), Size(x), Align(x), Places(x), bytes, at, Flat(x))
	}
	for _, s := range []api.Sig{sig(nothing, x), sig(u8, u8, x), sig(u8, x, u8)} {
		sigMayNot(t, s)
	}
	if !plainNone(x) {
		sigMayNot(t, sig(x))
		sigMayNot(t, sig(x, u8))
	}
}

// may looks whether values can have a type.
func may(t *testing.T, x api.Type) {
	t.Helper()
	if Check(x) != api.OK || Align(x) < 1 || len(Flat(x)) < 1 {
		t.Errorf("%s: %d %d %v", short(x), Check(x), Align(x), Flat(x))
	}
	for _, s := range []api.Sig{sig(x), sig(nothing, x), sig(x, x, x)} {
		sigMay(t, s)
	}
}

// sigMayNot looks whether a function can't have its types, and nothing is told of it.
func sigMayNot(t *testing.T, s api.Sig) {
	t.Helper()
	if CheckSig(s) != api.ErrArg || len(Args(s)) != 0 {
		t.Errorf("%s: %d %v", short(s), CheckSig(s), Args(s))
	}
	for _, lower := range []bool{false, true} {
		if f, e := Core(s, lower); e != api.ErrArg || len(f.P) != 0 || len(f.R) != 0 {
			t.Errorf("%s: %d %v", short(s), e, f)
		}
	}
}

// sigMay looks whether a function can have its types.
func sigMay(t *testing.T, s api.Sig) {
	t.Helper()
	if CheckSig(s) != api.OK || len(Args(s)) < len(s.T) {
		t.Errorf("%s: %d %v", short(s), CheckSig(s), Args(s))
	}
	for _, lower := range []bool{false, true} {
		if _, e := Core(s, lower); e != api.OK {
			t.Errorf("%s: %d", short(s), e)
		}
	}
}
