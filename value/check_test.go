package value

import (
	"math"
	"slices"
	"testing"

	"scarf/api"
)

// spans are the types of one number each: from which one on, up to which one.
var spans = []struct {
	t           api.Type
	least, most int
}{
	{boolean, 0, 1},
	{s8, -128, 127},
	{u8, 0, 255},
	{s16, -32768, 32767},
	{u16, 0, 65535},
	{s32, -2147483648, 2147483647},
	{u32, 0, 4294967295},
	{s64, math.MinInt64, math.MaxInt64},
	{u64, math.MinInt64, math.MaxInt64},
	{own(0), 0, 4294967295},
	{lent(0), 0, 4294967295},
	{own(1 << 20), 0, 4294967295},
	{lent(1 << 20), 0, 4294967295},
	{enum(1), 0, 0},
	{enum(2), 0, 1},
	{enum(64), 0, 63},
	{flags(1), 0, 1},
	{flags(8), 0, 255},
	{flags(9), 0, 511},
	{flags(31), 0, 2147483647},
	{flags(32), 0, 4294967295},
}

// edges are numbers at and beside which something ends.
func edges() []int {
	l := []int{math.MinInt64, math.MaxInt64, 0xD7FF, 0xD800, 0xDFFF, 0xE000, 0x10FFFF, 0x110000, 63, 64, 65}
	for _, bits := range []int{0, 1, 7, 8, 9, 15, 16, 17, 31, 32, 33, 62} {
		l = append(l, 1<<bits-1, 1<<bits, 1<<bits+1, -1<<bits-1, -1<<bits, -1<<bits+1)
	}
	return l
}

func TestNumbers(t *testing.T) {
	for _, x := range spans {
		for _, n := range append(edges(), x.least, x.most) {
			if n < x.least || n > x.most {
				no(t, x.t, num(n))
			} else {
				yes(t, x.t, num(n))
			}
		}
		if x.least > math.MinInt64 {
			no(t, x.t, num(x.least-1))
			no(t, x.t, num(x.most+1))
		}
	}
	for n := 1; n <= 32; n++ {
		for bit := range 64 {
			if bit < n {
				yes(t, flags(n), num(1<<bit))
			} else {
				no(t, flags(n), num(1<<bit))
			}
		}
		yes(t, flags(n), num(0))
		yes(t, flags(n), num(1<<n-1))
		no(t, flags(n), num(1<<n))
		no(t, flags(n), num(-1))
	}
}

func TestChars(t *testing.T) {
	for _, n := range append(edges(), 'a', 0x1F600) {
		if n >= 0 && n < 0xD800 || n > 0xDFFF && n < 0x110000 {
			yes(t, char, num(n))
			yes(t, words, api.Val{S: []int{n}})
			yes(t, words, api.Val{S: []int{'a', 'b', n, 'c'}})
		} else {
			no(t, char, num(n))
			for i := range 4 {
				s := []int{'a', 'b', 'c', 0x10FFFF}
				s[i] = n
				no(t, words, api.Val{S: s})
			}
		}
	}
}

func TestTexts(t *testing.T) {
	for _, n := range []int{0, 1, 2, 999, 1000} {
		yes(t, words, chars(n))
	}
	for _, n := range []int{1001, 1002, 3999, 4000, 1 << 20} {
		no(t, words, chars(n))
	}
	for _, i := range []int{0, 1, 500, 998, 999} {
		v := chars(1000)
		v.S[i] = 0xD800
		no(t, words, v)
	}
}

func TestLists(t *testing.T) {
	for _, n := range []int{0, 1, 2, 999, 1000} {
		yes(t, list(u8), all(times(n, num(255))...))
		yes(t, list(list(u8)), all(times(n, api.Val{})...))
	}
	for _, n := range []int{1001, 1002, 3999, 4000, 1 << 20} {
		no(t, list(u8), all(times(n, num(255))...))
		no(t, list(list(u8)), all(times(n, api.Val{})...))
	}
	for _, i := range []int{0, 1, 500, 998, 999} {
		v := all(times(1000, num(255))...)
		v.L[i].N = 256
		no(t, list(u8), v)
	}
	yes(t, list(words), all(str(""), str("ab"), str("\U0010FFFF")))
	no(t, list(words), all(str("ab"), num(1)))
	yes(t, list(tuple(u8, words)), all(all(num(1), str("a")), all(num(2), str(""))))
	no(t, list(tuple(u8, words)), all(all(num(1), str("a")), all(num(2))))
	yes(t, deep(u8, 15), deepVal(num(7), 15))
	for i := range 15 {
		yes(t, deep(u8, 15), deepVal(api.Val{}, i))
	}
	no(t, deep(u8, 15), deepVal(num(7), 14))
	no(t, deep(u8, 15), deepVal(api.Val{}, 16))
}

func TestRecords(t *testing.T) {
	for _, of := range []func(l ...api.Type) api.Type{record, tuple} {
		x := of(u8, words, option(s8))
		v := all(num(255), str("é"), sum(1, num(-128)))
		yes(t, x, v)
		no(t, x, api.Val{})
		no(t, x, all(v.L[:1]...))
		no(t, x, all(v.L[:2]...))
		no(t, x, all(append(slices.Clone(v.L), num(0))...))
		no(t, x, all(v.L[1], v.L[0], v.L[2]))
		no(t, x, all(num(256), v.L[1], v.L[2]))
		no(t, x, all(v.L[0], num(1), v.L[2]))
		no(t, x, all(v.L[0], v.L[1], sum(1, num(-129))))
		for _, n := range []int{1, 2, 63, 64} {
			yes(t, of(times(n, u8)...), all(times(n, num(7))...))
			no(t, of(times(n, u8)...), all(times(n-1, num(7))...))
			no(t, of(times(n, u8)...), all(times(n+1, num(7))...))
		}
	}
	no(t, tuple(tuple(u8, u8), u8), all(num(1), num(2), num(3)))
	no(t, tuple(u8), num(1))
}

// sums are types with cases, and what is in each: nothing of a zero type.
var sums = []struct {
	t     api.Type
	cases []api.Type
}{
	{variant(nothing), []api.Type{nothing}},
	{variant(u8), []api.Type{u8}},
	{variant(nothing, u8, nothing, list(u8)), []api.Type{nothing, u8, nothing, list(u8)}},
	{variant(times(64, u8)...), times(64, u8)},
	{enum(1), times(1, nothing)},
	{enum(64), times(64, nothing)},
	{option(u8), []api.Type{nothing, u8}},
	{option(list(u8)), []api.Type{nothing, list(u8)}},
	{option(option(u8)), []api.Type{nothing, option(u8)}},
	{result(nothing, nothing), []api.Type{nothing, nothing}},
	{result(u8, nothing), []api.Type{u8, nothing}},
	{result(nothing, u8), []api.Type{nothing, u8}},
	{result(list(u8), u8), []api.Type{list(u8), u8}},
	{result(u8, list(u8)), []api.Type{u8, list(u8)}},
}

func TestCases(t *testing.T) {
	for _, x := range sums {
		for i, in := range x.cases {
			switch in.Kind {
			case 0:
				yes(t, x.t, num(i))
				no(t, x.t, sum(i, api.Val{}))
			case api.TU8:
				yes(t, x.t, sum(i, num(255)))
				no(t, x.t, sum(i, num(256)))
				no(t, x.t, sum(i, all(num(1))))
			case api.TList:
				yes(t, x.t, sum(i, all(num(1), num(255))))
				no(t, x.t, sum(i, all(num(256))))
				no(t, x.t, sum(i, num(1)))
			case api.TOption:
				yes(t, x.t, sum(i, num(0)))
				yes(t, x.t, sum(i, sum(1, num(9))))
				no(t, x.t, sum(i, sum(1)))
				no(t, x.t, sum(i, num(9)))
			}
			if in.Kind != 0 {
				no(t, x.t, num(i))
				no(t, x.t, sum(i, api.Val{}, api.Val{}))
			}
		}
		for _, i := range []int{-1, math.MinInt64, len(x.cases), len(x.cases) + 1, 256, 1 << 32, math.MaxInt64} {
			for _, l := range [][]api.Val{nil, {{}}, {num(1)}, {all(num(1))}} {
				no(t, x.t, sum(i, l...))
			}
		}
	}
}

// What is not named is 0, or empty.
func TestOtherFields(t *testing.T) {
	for _, x := range []struct {
		t api.Type
		v api.Val
	}{
		{words, str("ab")}, {list(u8), all(num(1))}, {list(u8), api.Val{}}, {record(u8), all(num(1))}, {tuple(u8, u8), all(num(1), num(2))},
	} {
		yes(t, x.t, x.v)
		for _, n := range []int{1, -1, 2, math.MaxInt64, math.MinInt64} {
			v := x.v
			v.N = n
			no(t, x.t, v)
			no(t, list(x.t), all(x.v, v))
			no(t, option(x.t), sum(1, v))
		}
	}
	var types []api.Type
	for _, x := range spans {
		types = append(types, x.t)
	}
	types = append(types, char, words, variant(nothing, u8), option(u8), result(nothing, words))
	for _, x := range types {
		yes(t, x, api.Val{})
		yes(t, x, api.Val{S: []int{}, L: []api.Val{}})
		no(t, x, all(api.Val{}))
		no(t, tuple(u8, x), all(num(1), all(api.Val{})))
	}
	for _, x := range append(types, list(u8), list(words)) {
		if x.Kind == api.TString {
			continue
		}
		yes(t, x, api.Val{})
		no(t, x, api.Val{S: []int{0}})
		no(t, x, api.Val{S: []int{'a', 'b'}})
		no(t, list(x), all(api.Val{}, api.Val{S: []int{'a'}}))
	}
	no(t, record(u8), api.Val{S: []int{'a'}, L: []api.Val{num(1)}})
	no(t, tuple(u8), api.Val{S: []int{'a'}, L: []api.Val{num(1)}})
	no(t, option(u8), api.Val{N: 1, S: []int{'a'}, L: []api.Val{num(1)}})
	no(t, list(u8), api.Val{S: []int{'a'}, L: []api.Val{num(1)}})
}

// Types that may not be are told ahead of values that are none.
func TestBadTypes(t *testing.T) {
	for _, x := range bad() {
		for _, v := range []api.Val{{}, num(1), num(-1), str("a"), all(num(1)), {N: 1, S: []int{-1}, L: []api.Val{{}}}} {
			refused(t, x, v, api.ErrArg)
			refused(t, tuple(u8, x), all(num(1), v), api.ErrArg)
			refused(t, tuple(u8, x), v, api.ErrArg)
		}
	}
}

// filled makes a value of list<string> that is made of as many.
func filled(parts int) api.Val {
	var v api.Val
	for parts--; parts > 1001; parts -= 1001 {
		v.L = append(v.L, chars(1000))
	}
	if parts > 0 {
		v.L = append(v.L, chars(parts-1))
	}
	return v
}

func TestParts(t *testing.T) {
	for _, n := range []int{1, 2, 3, 1001, 1002, 1003, 2003, 2004, 3998, 3999, 4000} {
		yes(t, list(words), filled(n))
	}
	for _, n := range []int{4001, 4002, 5000} {
		no(t, list(words), filled(n))
	}
	grid := func(rows, extra int) (api.Type, api.Val) {
		return tuple(list(list(u8)), list(u8)), all(all(times(rows, all(times(999, num(1))...))...), all(times(extra, num(2))...))
	}
	for rows := range 4 {
		// The tuple, its two lists, and rows of a thousand.
		for extra := range 1001 {
			if parts := 3 + 1000*rows + extra; parts <= 10 || parts > 3990 {
				x, v := grid(rows, extra)
				if parts <= MaxParts {
					yes(t, x, v)
				} else {
					no(t, x, v)
				}
			}
		}
	}
	// Each value counts, whatever it is, and each character of a text; a char is one value.
	for _, x := range []struct {
		t     api.Type
		v     api.Val
		parts int
	}{
		{u8, num(1), 1}, {char, num(0x1F600), 1}, {words, str(""), 1}, {words, str("\U0001F600"), 2}, {words, str("abc"), 4}, {enum(3), num(2), 1}, {flags(32), num(-1 & 0xFFFFFFFF), 1},
		{option(u8), num(0), 1}, {option(u8), sum(1, num(0)), 2}, {option(option(words)), sum(1, sum(1, str("a"))), 4}, {result(nothing, words), num(0), 1}, {result(nothing, words), sum(1, str("ab")), 4},
		{record(u8, words), all(num(1), str("ab")), 5}, {tuple(u8, words), all(num(1), str("ab")), 5}, {list(u8), api.Val{}, 1}, {list(u8), all(num(1), num(2)), 3}, {own(0), num(1), 1}, {lent(3), num(1 << 31), 1}, {variant(nothing, list(words)), sum(1, all(str("a"), str(""))), 5},
	} {
		for _, more := range []int{-1, 0, 1, 2, 3} {
			y := tuple(x.t, list(words), x.t)
			v := all(x.v, filled(MaxParts-1-2*x.parts+more), x.v)
			if more <= 0 {
				yes(t, y, v)
			} else {
				no(t, y, v)
			}
			f := sig(x.t, list(words), x.t)
			want := api.OK
			if more > 0 {
				want = api.ErrType
			}
			args(t, f, want, v.L...)
		}
	}
}

func args(t *testing.T, s api.Sig, want api.Errno, l ...api.Val) {
	t.Helper()
	if e := Args(s, l...); e != want {
		t.Errorf("%s %s: %d, not %d", short(s), short(l), e, want)
	}
}

func TestArgs(t *testing.T) {
	args(t, api.Sig{}, api.OK)
	args(t, sig(), api.OK, []api.Val{}...)
	args(t, sig(), api.ErrType, num(0))
	f := sig(u8, words, option(own(3)))
	l := []api.Val{num(255), str("ab"), sum(1, num(1<<32-1))}
	args(t, f, api.OK, l...)
	args(t, f, api.ErrType)
	args(t, f, api.ErrType, l[:2]...)
	args(t, f, api.ErrType, append(slices.Clone(l), num(0))...)
	args(t, f, api.ErrType, l[1], l[0], l[2])
	args(t, f, api.ErrType, num(256), l[1], l[2])
	args(t, f, api.ErrType, l[0], num(1), l[2])
	args(t, f, api.ErrType, l[0], l[1], sum(1, num(1<<32)))
	args(t, f, api.ErrType, all(l...))
	for _, n := range []int{1, 63, 64} {
		args(t, sig(times(n, u8)...), api.OK, times(n, num(7))...)
		args(t, sig(times(n, u8)...), api.ErrType, times(n-1, num(7))...)
		args(t, sig(times(n, u8)...), api.ErrType, times(n+1, num(7))...)
	}
	// What is given is of no matter, unless it may not be.
	f.R = words
	args(t, f, api.OK, l...)
	f.Name = ""
	args(t, f, api.OK, l...)
	for _, x := range bad() {
		if x.Kind == 0 {
			continue
		}
		f.R = x
		args(t, f, api.ErrArg, l...)
		args(t, f, api.ErrArg)
		args(t, f, api.ErrArg, num(-1))
	}
	f.R = nothing
	for _, p := range [][]string{nil, some(2), some(4), {"a", "b", "a"}, {"a", "b", ""}, {"a", "b", "2b"}} {
		f.P = p
		args(t, f, api.ErrArg, l...)
		args(t, f, api.ErrArg)
	}
	args(t, sig(times(65, u8)...), api.ErrArg, times(65, num(7))...)
	args(t, api.Sig{R: api.Type{R: 1}}, api.ErrArg)
	for _, x := range bad() {
		args(t, sig(u8, x), api.ErrArg, num(1), num(1))
		args(t, sig(u8, x), api.ErrArg, num(-1))
		args(t, sig(x, u8), api.ErrArg)
	}
}

// Arguments are of less than MaxParts in all: as the values of a tuple that may be.
func TestArgsParts(t *testing.T) {
	args(t, sig(list(words)), api.OK, filled(3999))
	args(t, sig(list(words)), api.ErrType, filled(4000))
	args(t, sig(list(words), list(words)), api.OK, filled(1999), filled(2000))
	args(t, sig(list(words), list(words)), api.ErrType, filled(2000), filled(2000))
	args(t, sig(list(words), list(words)), api.ErrType, filled(3999), filled(1))
	args(t, sig(list(words), list(words)), api.ErrType, filled(1), filled(3999))
	args(t, sig(words, words, words, words), api.ErrType, chars(1000), chars(1000), chars(1000), chars(996))
	args(t, sig(words, words, words, words), api.OK, chars(1000), chars(1000), chars(1000), chars(995))
	args(t, sig(times(64, words)...), api.OK, times(64, chars(61))...)
	args(t, sig(times(64, words)...), api.ErrType, times(64, chars(62))...)
}

// Values without end are none.
func TestValuesWithoutEnd(t *testing.T) {
	x := deep(u8, 15)
	for _, n := range []int{1, 2, 1000, 5000} {
		v := all(times(n, api.Val{})...)
		for i := range v.L {
			v.L[i] = v
		}
		no(t, x, v)
		no(t, u8, v)
		no(t, option(deep(u8, 14)), sum(1, v))
	}
	// 1000^15 of them, which share what is in them.
	v := num(1)
	for range 15 {
		v = all(times(1000, v)...)
	}
	no(t, x, v)
	v = str("")
	for range 15 {
		v = all(v, v)
	}
	no(t, deep(words, 15), v)
	no(t, list(words), chars(1<<20))
	no(t, x, deepVal(num(1), 1<<16))
}
