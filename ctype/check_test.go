package ctype

import (
	"slices"
	"strings"
	"testing"

	"scarf/api"
)

// simple are the kinds that have nothing within.
func simple() []api.Type {
	return []api.Type{boolean, s8, u8, s16, u16, s32, u32, s64, u64, char, text}
}

// each kind, as it may be.
func good() []api.Type {
	return append(simple(), list(u8), option(u8), tuple(u8), record(u8), variant(u8), variant(nothing), by(api.TEnum, some(1)), by(api.TFlags, some(1)), own, borrow,
		result(u8, text), result(nothing, u8), result(u8, nothing), result(nothing, nothing), tuple(list(u8), text), record(u8, u32, u16), variant(u8, nothing, text))
}

func TestGood(t *testing.T) {
	for _, x := range good() {
		may(t, x)
		for _, y := range good() {
			for _, z := range []api.Type{list(x), option(x), tuple(x, y), record(x, y), variant(x, y), variant(nothing, x), result(x, y), result(nothing, x), result(y, nothing)} {
				may(t, z)
			}
		}
	}
}

// No kind has a field that is not named for it.
func TestFieldsThatAreNotNamed(t *testing.T) {
	for _, x := range good() {
		names := x.Kind == api.TRecord || x.Kind == api.TVariant || x.Kind == api.TEnum || x.Kind == api.TFlags
		for _, r := range []int{1, -1, MaxRes, 1 << 62, -1 << 63} {
			y := x
			y.R = r
			if x.Kind != api.TOwn && x.Kind != api.TBorrow || r < 0 || r > MaxRes {
				mayNot(t, y)
			}
		}
		if !names {
			y := x
			y.Names = []string{"a"}
			mayNot(t, y)
			y.Names = slices.Repeat([]string{"a"}, len(x.L))
			if len(x.L) > 0 {
				mayNot(t, y)
			}
			// Without anything in it it is none, nil or not.
			y.Names = []string{}
			may(t, y)
			y.Names = []string{"a", "b"}[:0]
			may(t, y)
		}
		if len(x.L) == 0 {
			y := x
			for _, l := range [][]api.Type{{u8}, {nothing}, {u8, u8}, {nothing, nothing}, {x}} {
				y.L = l
				mayNot(t, y)
			}
			y.L = []api.Type{}
			may(t, y)
			y.L = []api.Type{u8, nothing}[:0]
			may(t, y)
		}
	}
}

// Kinds that there are not, whatever else they have.
func TestKindsThatThereAreNot(t *testing.T) {
	for _, kind := range []int{0, -1, -12, api.TNamed, 23, 24, 100, 256 + 1, 1<<32 + 1, 1 << 62, -1 << 63, 1<<63 - 1} {
		for _, x := range []api.Type{{}, {Names: []string{"a"}}, {L: []api.Type{u8}}, {Names: []string{"a"}, L: []api.Type{u8}}, {R: 1}, {L: []api.Type{u8, u8}}} {
			x.Kind = kind
			mayNot(t, x)
			mayNot(t, list(x))
			mayNot(t, tuple(u8, x))
			if !none(x) {
				mayNot(t, variant(u8, x))
				mayNot(t, result(x, u8))
				mayNot(t, result(u8, x))
			}
		}
	}
}

// None may stand in a variant, and in a result, alone.
func TestNone(t *testing.T) {
	mayNot(t, nothing)
	for _, x := range []api.Type{list(nothing), option(nothing), tuple(nothing), tuple(u8, nothing), record(nothing), record(u8, nothing), list(list(nothing))} {
		mayNot(t, x)
	}
	empty := api.Type{Names: []string{}, L: []api.Type{}}
	for _, x := range []api.Type{nothing, empty} {
		may(t, variant(x))
		may(t, variant(x, u8, x))
		may(t, result(x, x))
		may(t, list(variant(x)))
		sigMay(t, sig(x))
		sigMay(t, sig(x, u8))
		sigMayNot(t, sig(u8, x))
	}
	// Of the kind 0, but not none.
	for _, x := range []api.Type{{R: 1}, {R: -1}, {Names: []string{""}}, {Names: []string{"a"}}, {L: []api.Type{{}}}, {L: []api.Type{u8}}} {
		mayNot(t, x)
		mayNot(t, variant(x))
		mayNot(t, variant(u8, x))
		mayNot(t, result(x, nothing))
		mayNot(t, result(nothing, x))
		sigMayNot(t, sig(x))
	}
}

// How many names, and types, a kind may have.
func TestNumbers(t *testing.T) {
	for _, n := range []int{0, 1, 2, 3, 8, 31, 32, 33, 63, 64, 65, 100, 1000} {
		is := func(x api.Type, ok bool) {
			t.Helper()
			if ok {
				may(t, x)
			} else {
				mayNot(t, x)
			}
		}
		l := times(n, u8)
		is(in(api.TList, l...), n == 1)
		is(in(api.TOption, l...), n == 1)
		is(in(api.TResult, l...), n == 2)
		is(in(api.TResult, times(n, nothing)...), n == 2)
		is(in(api.TTuple, l...), n >= 1 && n <= 64)
		is(record(l...), n >= 1 && n <= 64)
		is(variant(l...), n >= 1 && n <= 64)
		is(variant(times(n, nothing)...), n >= 1 && n <= 64)
		is(by(api.TEnum, some(n)), n >= 1 && n <= 64)
		is(by(api.TFlags, some(n)), n >= 1 && n <= 32)
		for _, m := range []int{0, 1, 2, 63, 64, 65} {
			if m != n {
				mayNot(t, by(api.TRecord, some(m), l...))
				mayNot(t, by(api.TVariant, some(m), l...))
				mayNot(t, by(api.TVariant, some(m), times(n, nothing)...))
			}
		}
		if n > 0 {
			mayNot(t, by(api.TEnum, some(n), times(n, nothing)...))
			mayNot(t, by(api.TFlags, some(n), times(n, nothing)...))
		}
	}
}

// Names are those of chapter 10, none twice.
func TestNames(t *testing.T) {
	long := strings.Repeat("a", api.MaxName)
	withNames := func(names ...string) []api.Type {
		n := len(names)
		return []api.Type{by(api.TRecord, names, times(n, u8)...), by(api.TVariant, names, times(n, text)...), by(api.TVariant, names, times(n, nothing)...), by(api.TEnum, names), by(api.TFlags, names)}
	}
	for _, l := range [][]string{{"a"}, {"a", "b"}, {"a", "A"}, {"a-b", "a", "b"}, {"get-HTTP2"}, {"record", "u8", "list"}, {long, long[1:]}, {"a1", "a2", "a3"}} {
		for _, x := range withNames(l...) {
			may(t, x)
		}
		if len(l) > 32 {
			continue
		}
		s := api.Sig{P: l, T: times(len(l), u8)}
		sigMay(t, s)
		s.P = append(slices.Clone(l), l[0])
		s.T = times(len(l)+1, u8)
		sigMayNot(t, s)
		for _, x := range withNames(append(slices.Clone(l), l[0])...) {
			mayNot(t, x)
		}
	}
	for _, bad := range []string{"", "0", "1a", "-a", "a-", "a--b", "aB", "a_b", "a b", "a.b", "%a", " a", "a ", "é", "a\x00", long + "a", "a-1", strings.Repeat("a-", 60) + "a"} {
		for _, l := range [][]string{{bad}, {"a", bad}, {bad, "a"}, {"a", bad, "b"}} {
			for _, x := range withNames(l...) {
				mayNot(t, x)
				mayNot(t, list(x))
			}
			sigMayNot(t, api.Sig{P: l, T: times(len(l), u8)})
		}
	}
	for _, l := range [][]string{{"a", "a"}, {"a", "b", "a"}, {"a", "b", "b"}, append(some(31), "n30"), append(some(63), "n0")} {
		for _, x := range withNames(l...) {
			mayNot(t, x)
			mayNot(t, option(x))
		}
		sigMayNot(t, api.Sig{P: l, T: times(len(l), u8)})
	}
	// Names of one type may stand in another one.
	may(t, by(api.TRecord, []string{"a", "b"}, by(api.TEnum, []string{"a", "b"}), by(api.TRecord, []string{"a", "b"}, u8, by(api.TFlags, []string{"a"}))))
	sigMay(t, api.Sig{P: []string{"a", "b"}, T: []api.Type{by(api.TEnum, []string{"a", "b"}), by(api.TEnum, []string{"a", "b"})}, R: by(api.TFlags, []string{"a"})})
}

func TestResources(t *testing.T) {
	for _, kind := range []int{api.TOwn, api.TBorrow} {
		for _, r := range []int{0, 1, 15, 16, 17, 1<<20 - 1, 1 << 20} {
			may(t, handle(kind, r))
			may(t, list(handle(kind, r)))
		}
		for _, r := range []int{-1, 1<<20 + 1, 1 << 32, 1 << 62, -1 << 63, 1<<63 - 1} {
			mayNot(t, handle(kind, r))
			mayNot(t, list(handle(kind, r)))
		}
		mayNot(t, api.Type{Kind: kind, Names: []string{"r"}})
		mayNot(t, api.Type{Kind: kind, Names: []string{"r"}, R: 1})
		mayNot(t, api.Type{Kind: kind, L: []api.Type{u8}})
	}
}

// A type stands within at most 15 others, on whichever way.
func TestDepth(t *testing.T) {
	for _, x := range []api.Type{u8, text, own, by(api.TEnum, some(2))} {
		may(t, deep(x, 15))
		mayNot(t, deep(x, 16))
		mayNot(t, deep(x, 17))
		mayNot(t, deep(x, 1000))
	}
	may(t, deep(result(nothing, nothing), 15))
	may(t, deep(variant(nothing), 15))
	mayNot(t, deep(variant(nothing), 16))
	mayNot(t, deep(variant(nothing, u8), 15))
	for n, ok := range map[int]bool{14: true, 15: false, 16: false} {
		for _, around := range []func(api.Type) api.Type{
			option, func(x api.Type) api.Type { return tuple(u8, x) }, func(x api.Type) api.Type { return tuple(x, u8) }, func(x api.Type) api.Type { return record(u8, x, u8) },
			func(x api.Type) api.Type { return variant(nothing, x) }, func(x api.Type) api.Type { return result(x, nothing) }, func(x api.Type) api.Type { return result(nothing, x) },
		} {
			x := around(deep(u8, n))
			if ok {
				may(t, x)
			} else {
				mayNot(t, x)
			}
			x = u8
			for range n + 1 {
				x = around(x)
			}
			if ok {
				may(t, x)
			} else {
				mayNot(t, x)
			}
		}
	}
}

// A type is made of at most 500; what is none is not counted.
func TestParts(t *testing.T) {
	for _, n := range []int{1, 2, 64, 65, 66, 67, 300, 499, 500} {
		may(t, parts(n))
	}
	for _, n := range []int{501, 502, 503, 600, 1000, 4000} {
		mayNot(t, parts(n))
	}
	for _, x := range []struct {
		f func(api.Type) api.Type
		n int
	}{
		{list, 1}, {option, 1}, {func(x api.Type) api.Type { return tuple(u8, x) }, 2}, {func(x api.Type) api.Type { return record(x, u8, text) }, 3}, {func(x api.Type) api.Type { return variant(nothing, x, nothing, u8) }, 2},
		{func(x api.Type) api.Type { return result(x, nothing) }, 1}, {func(x api.Type) api.Type { return result(nothing, x) }, 1}, {func(x api.Type) api.Type { return result(x, u8) }, 2},
		{func(x api.Type) api.Type { return tuple(by(api.TEnum, some(64)), x, by(api.TFlags, some(32))) }, 3}, {func(x api.Type) api.Type { return tuple(x, variant(times(64, nothing)...)) }, 2},
		{func(x api.Type) api.Type { return tuple(result(nothing, nothing), x, own) }, 3},
	} {
		may(t, x.f(parts(500-x.n)))
		mayNot(t, x.f(parts(501-x.n)))
	}
	// Each of a function's types by itself.
	sigMay(t, sig(parts(500), times(64, parts(500))...))
	sigMayNot(t, sig(parts(501), times(64, parts(500))...))
	sigMayNot(t, sig(parts(500), append(times(63, parts(500)), parts(501))...))
}

// A function's arguments.
func TestSigs(t *testing.T) {
	sigMay(t, api.Sig{})
	sigMay(t, api.Sig{Name: "no name at all\xff", P: []string{}, T: []api.Type{}})
	for _, n := range []int{0, 1, 16, 17, 63, 64} {
		sigMay(t, sig(nothing, times(n, u8)...))
		sigMay(t, sig(text, times(n, text)...))
	}
	for _, n := range []int{65, 66, 100, 1000} {
		sigMayNot(t, sig(nothing, times(n, u8)...))
	}
	for _, s := range []api.Sig{
		{P: []string{"a"}}, {T: []api.Type{u8}}, {P: []string{"a", "b"}, T: []api.Type{u8}}, {P: []string{"a"}, T: []api.Type{u8, u8}}, {P: some(65), T: times(64, u8)}, {P: some(64), T: times(65, u8)}, {P: some(64), T: times(63, u8)},
		{P: []string{"a"}, T: []api.Type{nothing}}, {P: []string{"a"}, T: []api.Type{of(api.TNamed)}}, {R: of(api.TNamed)}, {R: list(nothing)}, {R: api.Type{R: 1}},
	} {
		sigMayNot(t, s)
	}
	// What may be asked elsewhere is not asked here.
	sigMay(t, sig(borrow, borrow, own))
}
