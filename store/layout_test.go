package store

import (
	"math"
	"testing"

	"scarf/api"
)

func caseIs(t *testing.T, x api.Type, n int, want api.Type, ok bool) {
	t.Helper()
	if y, is := Case(x, n); is != ok || short(y) != short(want) {
		t.Errorf("%s %d: %s %v, not %s %v", short(x), n, short(y), is, short(want), ok)
	}
}

func TestCase(t *testing.T) {
	for _, x := range []struct {
		t api.Type
		l []api.Type
	}{
		{variant(nothing), []api.Type{nothing}}, {variant(u8, nothing, list(words)), []api.Type{u8, nothing, list(words)}}, {variant(times(64, own(5))...), times(64, own(5))},
		{enum(1), times(1, nothing)}, {enum(64), times(64, nothing)}, {option(u8), []api.Type{nothing, u8}}, {option(option(enum(2))), []api.Type{nothing, option(enum(2))}},
		{result(nothing, nothing), []api.Type{nothing, nothing}}, {result(u8, nothing), []api.Type{u8, nothing}}, {result(nothing, record(u8, s8)), []api.Type{nothing, record(u8, s8)}}, {result(words, u64), []api.Type{words, u64}},
	} {
		for i, in := range x.l {
			caseIs(t, x.t, i, in, true)
		}
		for _, n := range []int{-1, len(x.l), len(x.l) + 1, 256, 1 << 32, math.MinInt64, math.MaxInt64} {
			caseIs(t, x.t, n, nothing, false)
		}
	}
	for _, x := range append(others(), simple()...) {
		if x.Kind == api.TEnum {
			continue
		}
		for _, n := range []int{-1, 0, 1, 2, math.MaxInt64} {
			caseIs(t, x, n, nothing, false)
		}
	}
	// Types that may not be have no more cases than there are.
	for _, x := range bad() {
		for _, n := range []int{-1, 0, 1, 2, 63, 64, 65} {
			Case(x, n)
		}
	}
	caseIs(t, of(api.TOption), 1, nothing, false)
	caseIs(t, in(api.TResult, u8), 1, nothing, false)
	caseIs(t, in(api.TResult, u8), 0, nothing, false)
	caseIs(t, of(api.TVariant), 0, nothing, false)
}

// simple are types that are neither texts nor made of others, others those that are, or are none.
func simple() []api.Type {
	return []api.Type{boolean, s8, u8, s16, u16, s32, u32, s64, u64, char, flags(1), flags(32), own(0), own(1 << 20), lent(7)}
}

func others() []api.Type {
	return []api.Type{words, list(u8), record(u8), tuple(u8), nothing, of(-1), of(22), of(23), of(api.TList), of(api.TRecord), of(api.TTuple)}
}

func TestSimple(t *testing.T) {
	numbers := []int{0, 1, 2, -1, 127, 128, 255, 256, 'a', 0xD7FF, 0xD800, 0xDFFF, 0xE000, 0xFFFF, 0x10FFFF, 0x110000, 1 << 31, 1<<32 - 1, 1 << 32, 1<<32 + 1, 1<<32 + 'a', math.MinInt64, math.MaxInt64}
	is := func(x api.Type, n, want int, trap api.Trap, ok bool) {
		t.Helper()
		if v, tr, is := Simple(x, n); !equal(v, num(want)) || tr != trap || is != ok {
			t.Errorf("%s %d: %s %d %v, not %d %d %v", short(x), n, short(v), tr, is, want, trap, ok)
		}
	}
	for _, n := range numbers {
		for _, x := range []api.Type{s8, u8, s16, u16, s32, u32, s64, u64, own(0), own(1 << 20), lent(7)} {
			is(x, n, n, api.NoTrap, true)
		}
		b := 1
		if n == 0 {
			b = 0
		}
		is(boolean, n, b, api.NoTrap, true)
		if n >= 0 && n < 0xD800 || n > 0xDFFF && n < 0x110000 {
			is(char, n, n, api.NoTrap, true)
		} else {
			is(char, n, 0, api.TrapChar, true)
		}
		for k := 1; k <= 32; k++ {
			is(flags(k), n, n&(1<<k-1), api.NoTrap, true)
		}
		for _, x := range append(others(), enum(1), enum(64), option(u8), result(u8, u8), variant(u8), variant(nothing), of(api.TEnum), of(api.TVariant), of(api.TOption), of(api.TResult)) {
			is(x, n, 0, api.NoTrap, false)
		}
		// Of the type's own fields nothing is asked.
		for _, kind := range []int{api.TU8, api.TS64, api.TOwn, api.TBorrow} {
			is(api.Type{Kind: kind, Names: []string{"", ""}, L: []api.Type{nothing}, R: -5}, n, n, api.NoTrap, true)
		}
		is(api.Type{Kind: api.TBool, Names: some(2), L: []api.Type{u8}, R: 5}, n, b, api.NoTrap, true)
		is(api.Type{Kind: api.TFlags, Names: []string{"", "", ""}, L: []api.Type{u8}, R: 5}, n, n&7, api.NoTrap, true)
		is(of(api.TFlags), n, 0, api.NoTrap, true)
		for _, k := range []int{33, 62, 63} {
			is(flags(k), n, n&(1<<k-1), api.NoTrap, true)
		}
		for _, k := range []int{64, 65, 1000} {
			is(flags(k), n, n, api.NoTrap, true)
		}
	}
	is(api.Type{Kind: api.TChar, Names: some(2), L: []api.Type{u8}, R: 5}, 'a', 'a', api.NoTrap, true)
	is(api.Type{Kind: api.TChar, Names: some(2), L: []api.Type{u8}, R: 5}, -1, 0, api.TrapChar, true)
}
