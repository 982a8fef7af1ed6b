package ctype

import (
	"slices"
	"strings"
	"testing"

	"scarf/api"
)

func TestPlain(t *testing.T) {
	p := list(record(u8, text))
	enum := by(api.TEnum, []string{"b", "a"})
	for _, x := range []struct{ t, want api.Type }{
		{tuple(u8), by(api.TRecord, []string{"0"}, u8)},
		{tuple(u8, p, text), by(api.TRecord, []string{"0", "1", "2"}, u8, p, text)},
		{tuple(tuple(u8), option(u8)), by(api.TRecord, []string{"0", "1"}, tuple(u8), option(u8))},
		{enum, by(api.TVariant, []string{"b", "a"}, nothing, nothing)},
		{option(p), by(api.TVariant, []string{"none", "some"}, nothing, p)},
		{option(option(u8)), by(api.TVariant, []string{"none", "some"}, nothing, option(u8))},
		{result(u8, p), by(api.TVariant, []string{"ok", "error"}, u8, p)},
		{result(nothing, p), by(api.TVariant, []string{"ok", "error"}, nothing, p)},
		{result(p, nothing), by(api.TVariant, []string{"ok", "error"}, p, nothing)},
		{result(nothing, nothing), by(api.TVariant, []string{"ok", "error"}, nothing, nothing)},
	} {
		if got := Plain(x.t); !equal(got, x.want) {
			t.Errorf("%s: %v, not %v", short(x.t), got, x.want)
		}
		// It lies as that does.
		y := x.want
		if y.Kind == api.TRecord {
			y.Names = some(len(y.L)) // no name is a number
		}
		if Size(x.t) != Size(y) || Align(x.t) != Align(y) || !slices.Equal(Flat(x.t), Flat(y)) || !slices.Equal(Places(x.t), Places(y)) {
			t.Errorf("%s does not lie as %v", short(x.t), y)
		}
	}
	if got := Plain(tuple(times(64, u8)...)); strings.Join(got.Names[9:12], " ") != "9 10 11" || got.Names[63] != "63" || len(got.Names) != 64 {
		t.Error(got.Names)
	}
	for _, x := range append(simple(), p, list(tuple(u8)), record(tuple(u8), option(u8)), variant(nothing, result(u8, u8)), by(api.TFlags, []string{"x", "y"}), handle(api.TOwn, 7), handle(api.TBorrow, 1<<20), nothing,
		of(api.TNamed), of(-1), of(99), api.Type{Kind: 99, R: 5, Names: []string{"", ""}, L: []api.Type{u8, nothing}}, list(nothing), record(nothing), api.Type{Kind: api.TRecord, Names: []string{"a"}}, api.Type{Kind: api.TVariant, L: times(3, u8)},
		in(api.TOption), in(api.TOption, u8, u8), in(api.TResult), in(api.TResult, u8), in(api.TResult, u8, u8, u8)) {
		if got := Plain(x); !equal(got, x) {
			t.Errorf("%s: %v", short(x), got)
		}
	}
	// Of one that may not be what is told of its kind.
	if got := Plain(api.Type{Kind: api.TTuple, R: 3, Names: []string{"x"}, L: []api.Type{nothing}}); !equal(got, by(api.TRecord, []string{"0"}, nothing)) {
		t.Error(got)
	}
	if got := Plain(api.Type{Kind: api.TEnum, R: 3, Names: []string{"x"}, L: []api.Type{u8, u8}}); !equal(got, by(api.TVariant, []string{"x"}, nothing)) {
		t.Error(got)
	}
	if got := Plain(of(api.TTuple)); !equal(got, of(api.TRecord)) {
		t.Error(got)
	}
	if got := Plain(of(api.TEnum)); !equal(got, of(api.TVariant)) {
		t.Error(got)
	}
}

// lay is how a type lies: its size, its alignment, where its fields are, its case's bytes, and where what is in that is.
type lay struct {
	t           api.Type
	size, align int
	places      []int
	bytes, at   int
}

// How each simple kind lies.
func simpleLays() []lay {
	l := []lay{{t: boolean, size: 1, align: 1}, {t: s8, size: 1, align: 1}, {t: u8, size: 1, align: 1}, {t: s16, size: 2, align: 2}, {t: u16, size: 2, align: 2}, {t: s32, size: 4, align: 4}, {t: u32, size: 4, align: 4},
		{t: char, size: 4, align: 4}, {t: own, size: 4, align: 4}, {t: handle(api.TBorrow, 9), size: 4, align: 4}, {t: s64, size: 8, align: 8}, {t: u64, size: 8, align: 8}, {t: text, size: 8, align: 4}, {t: list(u64), size: 8, align: 4}, {t: list(boolean), size: 8, align: 4}}
	for n := 1; n <= 32; n++ {
		x := 4
		if n <= 8 {
			x = 1
		} else if n <= 16 {
			x = 2
		}
		l = append(l, lay{t: by(api.TFlags, some(n)), size: x, align: x})
	}
	return l
}

func TestLays(t *testing.T) {
	l := append(simpleLays(),
		// Records, and tuples.
		lay{record(u8, u32, u16), 12, 4, []int{0, 4, 8}, 0, 0}, lay{tuple(u8, u32, u16), 12, 4, []int{0, 4, 8}, 0, 0}, lay{record(u8), 1, 1, []int{0}, 0, 0}, lay{record(u64), 8, 8, []int{0}, 0, 0},
		lay{tuple(u8, u64), 16, 8, []int{0, 8}, 0, 0}, lay{tuple(u64, u8), 16, 8, []int{0, 8}, 0, 0}, lay{tuple(u8, u8, u16, u32, u64), 16, 8, []int{0, 1, 2, 4, 8}, 0, 0}, lay{tuple(u8, u16, u8, u32, u8, u64, u8), 32, 8, []int{0, 2, 4, 8, 12, 16, 24}, 0, 0},
		lay{tuple(u8, text), 12, 4, []int{0, 4}, 0, 0}, lay{tuple(text, u64), 16, 8, []int{0, 8}, 0, 0}, lay{tuple(text, u8, u64), 24, 8, []int{0, 8, 16}, 0, 0}, lay{tuple(u16, u8), 4, 2, []int{0, 2}, 0, 0}, lay{tuple(u8, tuple(u16, u8), u8), 8, 2, []int{0, 2, 6}, 0, 0},
		lay{record(tuple(u8, u32), u8), 12, 4, []int{0, 8}, 0, 0}, lay{record(own, u8, list(u8)), 16, 4, []int{0, 4, 8}, 0, 0}, lay{tuple(by(api.TFlags, some(9)), by(api.TFlags, some(8)), by(api.TFlags, some(17))), 8, 4, []int{0, 2, 4}, 0, 0},
		lay{tuple(u8, option(u8), u8, option(u64)), 24, 8, []int{0, 1, 3, 8}, 0, 0}, lay{tuple(u8, by(api.TEnum, some(64)), char), 8, 4, []int{0, 1, 4}, 0, 0},
		// Variants and the like.
		lay{option(u64), 16, 8, nil, 1, 8}, lay{option(u8), 2, 1, nil, 1, 1}, lay{option(u16), 4, 2, nil, 1, 2}, lay{option(u32), 8, 4, nil, 1, 4}, lay{option(text), 12, 4, nil, 1, 4}, lay{option(option(u8)), 3, 1, nil, 1, 1}, lay{option(option(u64)), 24, 8, nil, 1, 8},
		lay{by(api.TEnum, some(1)), 1, 1, nil, 1, 1}, lay{by(api.TEnum, some(64)), 1, 1, nil, 1, 1}, lay{variant(nothing), 1, 1, nil, 1, 1}, lay{variant(times(64, nothing)...), 1, 1, nil, 1, 1}, lay{result(nothing, nothing), 1, 1, nil, 1, 1},
		lay{result(u8, nothing), 2, 1, nil, 1, 1}, lay{result(nothing, text), 12, 4, nil, 1, 4}, lay{result(u8, u64), 16, 8, nil, 1, 8}, lay{result(text, u64), 16, 8, nil, 1, 8}, lay{result(tuple(u8, text), u64), 24, 8, nil, 1, 8},
		lay{variant(u32, u64), 16, 8, nil, 1, 8}, lay{variant(u8, tuple(u8, u8, u8)), 4, 1, nil, 1, 1}, lay{variant(u16, tuple(u8, u8, u8)), 6, 2, nil, 1, 2}, lay{variant(tuple(u16, u8), nothing, u8), 6, 2, nil, 1, 2},
		lay{variant(u32, tuple(u8, u8, u8, u8, u8)), 12, 4, nil, 1, 4}, lay{variant(append(times(63, nothing), u64)...), 16, 8, nil, 1, 8}, lay{option(by(api.TFlags, some(16))), 4, 2, nil, 1, 2}, lay{option(borrow), 8, 4, nil, 1, 4},
		lay{tuple(times(64, u64)...), 512, 8, nil, 0, 0}, lay{list(tuple(u8, u64)), 8, 4, nil, 0, 0})
	for _, x := range l {
		if Check(x.t) != api.OK || Size(x.t) != x.size || Align(x.t) != x.align {
			t.Errorf("%s: %d %d, not %d %d", short(x.t), Size(x.t), Align(x.t), x.size, x.align)
		}
		if len(x.places) > 0 || x.t.Kind != api.TTuple {
			if !slices.Equal(Places(x.t), x.places) {
				t.Errorf("%s: %v, not %v", short(x.t), Places(x.t), x.places)
			}
		}
		if bytes, at := Case(x.t); bytes != x.bytes || at != x.at {
			t.Errorf("%s: %d %d, not %d %d", short(x.t), bytes, at, x.bytes, x.at)
		}
	}
	for i, at := range Places(tuple(times(64, u16)...)) {
		if at != 2*i {
			t.Error(i, at)
		}
	}
}

// Two simple things, one behind the other, and one or the other.
func TestTwo(t *testing.T) {
	up := func(at, align int) int {
		for at%align > 0 {
			at++
		}
		return at
	}
	for _, a := range simpleLays() {
		for _, b := range simpleLays() {
			align := max(a.align, b.align)
			at := up(a.size, b.align)
			for _, x := range []api.Type{tuple(a.t, b.t), record(a.t, b.t)} {
				if Align(x) != align || Size(x) != up(at+b.size, align) || !slices.Equal(Places(x), []int{0, at}) {
					t.Errorf("%s: %d %d %v", short(x), Size(x), Align(x), Places(x))
				}
			}
			for _, x := range []api.Type{result(a.t, b.t), variant(a.t, b.t), variant(nothing, a.t, nothing, b.t)} {
				bytes, place := Case(x)
				if bytes != 1 || place != align || Align(x) != align || Size(x) != up(align+max(a.size, b.size), align) {
					t.Errorf("%s: %d %d %d %d", short(x), Size(x), Align(x), bytes, place)
				}
			}
		}
	}
}

// A variant that has more cases than one byte tells: no type has so many names.
func TestCaseBytes(t *testing.T) {
	for n, want := range map[int]int{1: 1, 64: 1, 255: 1, 256: 1, 257: 2, 1000: 2} {
		if caseBytes(n) != want {
			t.Error(n, caseBytes(n))
		}
	}
	for _, x := range []struct {
		t    api.Type
		n    int
		at   int
		want complex128
	}{{nothing, 256, 1, 1 + 1i}, {nothing, 257, 2, 2 + 2i}, {u8, 256, 1, 2 + 1i}, {u8, 257, 2, 4 + 2i}, {u64, 256, 8, 16 + 8i}, {u64, 257, 8, 16 + 8i}} {
		if at, all := cases(times(x.n, x.t)); at != x.at || all != x.want {
			t.Error(x.t.Kind, x.n, at, all)
		}
	}
}
