package lift

import (
	"math"
	"slices"
	"strings"
	"testing"

	"scarf/api"
	"scarf/ctype"
	"scarf/store"
)

var encodings = []int{api.EncUTF8, api.EncUTF16, api.EncLatin1}

// The examples of the chapter.
func TestExamples(t *testing.T) {
	h := heap(page(), 0)
	h.lowers(t, []api.Type{s8}, []api.Val{val(-1)}, []int{1<<32 - 1}, 0, nil)
	h.lowers(t, []api.Type{option(u64)}, []api.Val{sum(1, val(5))}, []int{1, 5}, 0, nil)
	h.lowers(t, []api.Type{option(u64)}, []api.Val{sum(0)}, []int{0, 0}, 0, nil)
	h.lifts(t, variant(u32, u64), []int{0, -1}, sum(0, val(1<<32-1)))
	h.lifts(t, variant(u32, u64), []int{1, -1}, sum(1, val(-1)))
}

// Numbers are a core value's lowest bits.
func TestNumbersLifted(t *testing.T) {
	h := heap(page(), 0)
	for _, x := range []struct {
		t       api.Type
		n, want int
	}{
		{boolean, 0, 0}, {boolean, 1, 1}, {boolean, 2, 1}, {boolean, 256, 1}, {boolean, 1 << 31, 1}, {boolean, -1, 1}, {boolean, 1 << 32, 0}, {boolean, math.MinInt64, 0}, {boolean, 1<<32 + 1, 1},
		{s8, 0, 0}, {s8, 127, 127}, {s8, 128, -128}, {s8, 255, -1}, {s8, 256, 0}, {s8, -1, -1}, {s8, -129, 127}, {s8, 0x1FF80, -128}, {s8, 1<<32 - 1, -1}, {s8, 1<<32 + 5, 5},
		{u8, 0, 0}, {u8, 127, 127}, {u8, 128, 128}, {u8, 255, 255}, {u8, 256, 0}, {u8, -1, 255}, {u8, 0x1FF80, 128}, {u8, 1<<32 - 1, 255}, {u8, math.MinInt64 + 7, 7},
		{s16, 32767, 32767}, {s16, 32768, -32768}, {s16, 65535, -1}, {s16, 65536, 0}, {s16, -1, -1}, {s16, -32769, 32767}, {s16, 255, 255}, {s16, 0x18000, -32768}, {s16, 1<<32 - 2, -2},
		{u16, 32767, 32767}, {u16, 32768, 32768}, {u16, 65535, 65535}, {u16, 65536, 0}, {u16, -1, 65535}, {u16, 255, 255}, {u16, 0x18001, 32769}, {u16, 1<<32 - 2, 65534},
		{s32, 1<<31 - 1, 1<<31 - 1}, {s32, 1 << 31, -1 << 31}, {s32, 1<<32 - 1, -1}, {s32, 1 << 32, 0}, {s32, -1, -1}, {s32, 65535, 65535}, {s32, 1<<33 + 1<<31, -1 << 31}, {s32, math.MaxInt64, -1}, {s32, math.MinInt64, 0},
		{u32, 1<<31 - 1, 1<<31 - 1}, {u32, 1 << 31, 1 << 31}, {u32, 1<<32 - 1, 1<<32 - 1}, {u32, 1 << 32, 0}, {u32, -1, 1<<32 - 1}, {u32, 65536, 65536}, {u32, math.MaxInt64, 1<<32 - 1}, {u32, math.MinInt64 + 3, 3},
		{s64, 0, 0}, {s64, -1, -1}, {s64, 1 << 32, 1 << 32}, {s64, math.MaxInt64, math.MaxInt64}, {s64, math.MinInt64, math.MinInt64},
		{u64, 0, 0}, {u64, -1, -1}, {u64, 1 << 32, 1 << 32}, {u64, math.MaxInt64, math.MaxInt64}, {u64, math.MinInt64, math.MinInt64},
		{char, 0, 0}, {char, 'a', 'a'}, {char, 0xD7FF, 0xD7FF}, {char, 0xE000, 0xE000}, {char, 0x10FFFF, 0x10FFFF}, {char, 1<<32 + 'b', 'b'}, {char, math.MinInt64, 0},
		{own(0), 0, 0}, {own(1), 7, 7}, {own(2), 1<<32 - 1, 1<<32 - 1}, {own(2), 1 << 32, 0}, {own(3), -1, 1<<32 - 1}, {lent(0), -2, 1<<32 - 2}, {lent(5), 1<<32 + 9, 9}, {lent(5), 1 << 31, 1 << 31},
		{flags(1), 0, 0}, {flags(1), 1, 1}, {flags(1), 2, 0}, {flags(1), -1, 1}, {flags(8), 511, 255}, {flags(9), 511, 511}, {flags(31), -1, 1<<31 - 1}, {flags(32), -1, 1<<32 - 1}, {flags(32), 1<<33 + 6, 6},
	} {
		h.lifts(t, x.t, []int{x.n}, val(x.want))
		// Also where it lies in the place of a number of 64 bits.
		h.lifts(t, variant(x.t, u64, s64, boolean), []int{0, x.n}, sum(0, val(x.want)))
		h.lifts(t, tupled(u8, x.t, u8), []int{1, x.n, 2}, all(val(1), val(x.want), val(2)))
		v, trap := UpArgs(h.Heap, takes(x.t, u64), x.n, x.n)
		got(t, v, trap, []api.Val{val(x.want), val(x.n)}, 0)
		w, trap := UpResult(h.Heap, gives(x.t), x.n)
		got(t, []api.Val{w}, trap, []api.Val{val(x.want)}, 0)
	}
	for _, n := range []int{0xD800, 0xDFFF, 0x110000, -1, 1<<31 + 'a', 1<<32 + 0xD800, 1<<32 - 1} {
		h.stops(t, char, []int{n}, api.TrapChar)
		h.stops(t, option(char), []int{1, n}, api.TrapChar)
		h.lifts(t, option(char), []int{0, n}, sum(0))
		if v, trap := UpResult(h.Heap, gives(char), n); !isZero(v) || trap != api.TrapChar {
			t.Error(n, v, trap)
		}
		l, trap := UpArgs(h.Heap, takes(u8, char, u8), 1, n, 2)
		got(t, l, trap, nil, api.TrapChar)
	}
}

// A case is told by its number; what is in it lies in the first of the core values behind it.
func TestCasesLifted(t *testing.T) {
	h := heap(page(), 0)
	many := variant(nothing, u8, tupled(u64, s8), char)
	for _, x := range []struct {
		t    api.Type
		core []int
		want api.Val
	}{
		{enum(1), []int{0}, sum(0)}, {enum(3), []int{2}, sum(2)}, {enum(64), []int{63}, sum(63)}, {enum(3), []int{1 << 32}, sum(0)}, {enum(3), []int{math.MinInt64 + 2}, sum(2)},
		{variant(nothing), []int{0}, sum(0)}, {variant(nothing, nothing), []int{1}, sum(1)}, {variant(u8), []int{0, 300}, sum(0, val(44))},
		{option(u8), []int{0, 77}, sum(0)}, {option(u8), []int{1, 77}, sum(1, val(77))}, {option(u8), []int{1<<32 + 1, -1}, sum(1, val(255))},
		{result(u8, s64), []int{0, -1}, sum(0, val(255))}, {result(u8, s64), []int{1, -1}, sum(1, val(-1))}, {result(nothing, s64), []int{0, 9}, sum(0)}, {result(nothing, nothing), []int{1}, sum(1)}, {result(s8, nothing), []int{1, 200}, sum(1)}, {result(s8, nothing), []int{0, 200}, sum(0, val(-56))},
		{many, []int{0, 7, 8}, sum(0)}, {many, []int{1, -1, 8}, sum(1, val(255))}, {many, []int{2, -1, 255}, sum(2, all(val(-1), val(-1)))}, {many, []int{3, 1<<40 + 'z', -1}, sum(3, val('z'))},
		{option(option(enum(2))), []int{1, 1, 1}, sum(1, sum(1, sum(1)))}, {option(option(enum(2))), []int{1, 0, 7}, sum(1, sum(0))}, {option(option(enum(2))), []int{0, 7, 7}, sum(0)},
		// What stands behind a case lies behind all that may be in it.
		{tupled(many, u8), []int{1, 2, 3, 4}, all(sum(1, val(2)), val(4))}, {tupled(many, u8), []int{0, 2, 3, 4}, all(sum(0), val(4))}, {tupled(many, many), []int{2, 2, 3, 1, 5, 6}, all(sum(2, all(val(2), val(3))), sum(1, val(5)))},
		{variant(tupled(option(u64), u8), u8), []int{0, 0, 5, 6}, sum(0, all(sum(0), val(6)))}, {variant(tupled(option(u64), u8), u8), []int{1, 7, 5, 6}, sum(1, val(7))},
		{record(enum(2), record(u8, enum(3)), result(u8, u8)), []int{1, 2, 0, 1, 3}, all(val(1), all(val(2), val(0)), sum(1, val(3)))},
		{tupled(enum(64)), []int{63}, all(val(63))}, {flags(3), []int{15}, val(7)},
	} {
		h.lifts(t, x.t, x.core, x.want)
		h.lifts(t, tupled(u8, x.t, u64), both(append([]int{1}, x.core...), -5), all(val(1), x.want, val(-5)))
		h.lifts(t, variant(u8, x.t, u8), append([]int{1}, x.core...), sum(1, x.want))
	}
}

// There are no other cases; that is told ahead of what is in them.
func TestNoCases(t *testing.T) {
	h := heap(page(), 0)
	for _, x := range []struct {
		t    api.Type
		rest []int
		n    []int
	}{
		{enum(1), nil, []int{1, 2}}, {enum(3), nil, []int{3, 256, 1<<32 + 3}}, {enum(64), nil, []int{64, 255}}, {variant(nothing), nil, []int{1}}, {variant(char, words), []int{-1, -1}, []int{2}},
		{option(char), []int{-1}, []int{2, 1<<32 + 2}}, {result(char, nothing), []int{-1}, []int{2}}, {result(nothing, nothing), nil, []int{2}},
	} {
		for _, n := range both([]int{-1, 1<<32 - 1, 1 << 31, math.MaxInt64, 65536, -2}, x.n...) {
			core := append([]int{n}, x.rest...)
			h.stops(t, x.t, core, api.TrapCase)
			h.stops(t, option(x.t), append([]int{1}, core...), api.TrapCase)
			h.lifts(t, option(x.t), append([]int{0}, core...), sum(0))
			h.stops(t, tupled(x.t, char), both(core, -1), api.TrapCase)
			h.stops(t, tupled(char, x.t), append([]int{-1}, core...), api.TrapChar)
			l, trap := Lift(h.Heap, both(core, -1), x.t, char)
			got(t, l, trap, nil, api.TrapCase)
			l, trap = Lift(h.Heap, append([]int{-1}, core...), char, x.t)
			got(t, l, trap, nil, api.TrapChar)
		}
	}
}

// Texts and lists lie where a place and a length tell, by the lowest 32 bits of each.
func TestSpansLifted(t *testing.T) {
	smile := "a\x00\xE9\x00\x3D\xD8\x00\xDE"
	for _, x := range []struct {
		enc  int
		t    api.Type
		at   int
		s    string
		n    int
		want api.Val
	}{
		{0, words, 100, "", 0, str("")}, {0, words, 101, "hi", 2, str("hi")}, {0, words, 7, "a\xC3\xA9\xF0\x9F\x98\x80", 7, str("aé\U0001F600")}, {0, words, 65536, "", 0, str("")}, {0, words, 65535, "x", 1, str("x")},
		{1, words, 100, "", 0, str("")}, {1, words, 100, smile, 4, str("aé\U0001F600")}, {1, words, 65534, "x\x00", 1, str("x")},
		{2, words, 100, "a\xE9", 2, str("aé")}, {2, words, 100, smile, 1<<31 + 4, str("aé\U0001F600")}, {2, words, 100, smile, 1<<31 + 1, str("a")}, {2, words, 100, "", 1 << 31, str("")},
		{0, list(u8), 101, "\x01\xFF", 2, all(val(1), val(255))}, {0, list(s16), 102, "\xFF\xFF", 1, all(val(-1))}, {0, list(u64), 65536, "", 0, all()}, {1, list(u64), 104, "\xFF\xFF\xFF\xFF\xFF\xFF\xFF\xFF", 1, all(val(-1))},
		{0, list(words), 100, nums(108, 1) + "x", 1, all(str("x"))}, {0, list(list(u8)), 100, nums(120, 1, 121, 2) + "____\x01\x02\x03", 2, all(all(val(1)), all(val(2), val(3)))}, {2, list(option(char)), 100, nums(0, 7, 1, 'a'), 2, all(sum(0), sum(1, val('a')))},
	} {
		h := with(x.enc, patch{x.at, x.s})
		for _, high := range []int{0, 1 << 32, -1 << 32, 5 << 40} {
			core := []int{x.at + high, x.n - high}
			h.lifts(t, x.t, core, x.want)
			h.lifts(t, tupled(u8, x.t, u8), []int{1, core[0], core[1], 2}, all(val(1), x.want, val(2)))
			h.lifts(t, variant(s64, x.t, tupled(u8, u64)), []int{1, core[0], core[1]}, sum(1, x.want))
			h.lifts(t, tupled(option(x.t), u8), []int{0, core[0], core[1], 2}, all(sum(0), val(2)))
			v, trap := UpArgs(h.Heap, takes(x.t, x.t), both(core, core...)...)
			got(t, v, trap, []api.Val{x.want, x.want}, 0)
		}
	}
}

// What may not be read of texts and lists: the traps of the memory.
func TestSpansStopped(t *testing.T) {
	for _, x := range []struct {
		enc   int
		t     api.Type
		s     string
		at, n int
		trap  api.Trap
	}{
		{0, words, "", 65536, 1, api.TrapBounds}, {0, words, "", 65537, 0, api.TrapBounds}, {0, words, "", -1, 0, api.TrapBounds}, {0, words, "", 0, 1001, api.TrapLength}, {0, words, "", 0, -1, api.TrapLength}, {0, words, "", -1, 1001, api.TrapLength}, {0, words, "\xC3", 100, 1, api.TrapText}, {0, words, "\xED\xA0\x80", 100, 3, api.TrapText},
		{1, words, "a\x00", 101, 1, api.TrapAlign}, {1, words, "", 65535, 1, api.TrapAlign}, {1, words, "", 65534, 2, api.TrapBounds}, {1, words, "\x00\xD8", 100, 1, api.TrapText}, {1, words, "", 101, 1001, api.TrapLength}, {1, words, "", 0, 1 << 31, api.TrapLength},
		{2, words, "", 101, 0, api.TrapAlign}, {2, words, "", 100, 1001, api.TrapLength}, {2, words, "", 100, 1<<31 + 1001, api.TrapLength}, {2, words, "\x00\xDC", 100, 1<<31 + 1, api.TrapText}, {2, words, "", 65536, 1, api.TrapBounds},
		{0, list(u8), "", 65536, 1, api.TrapBounds}, {0, list(u8), "", 0, 1001, api.TrapLength}, {0, list(u16), "", 101, 0, api.TrapAlign}, {0, list(u64), "", 65532, 0, api.TrapAlign}, {0, list(u64), "", 65528, 2, api.TrapBounds}, {0, list(u64), "", -8, 1001, api.TrapLength},
		{0, list(enum(3)), "\x00\x01\x03\x02", 100, 4, api.TrapCase}, {0, list(char), nums('a', 0xD800), 100, 2, api.TrapChar}, {0, list(words), nums(0, 0, 65537, 0), 100, 2, api.TrapBounds}, {1, list(words), nums(0, 0, 1, 0), 100, 2, api.TrapAlign}, {0, list(words), nums(108, 1) + "\xFF", 100, 1, api.TrapText},
		{0, list(list(u8)), strings.Repeat(nums(0, 1000), 4), 100, 4, api.TrapLength},
	} {
		h := with(x.enc, patch{100, x.s})
		was := h.m.Clone()
		h.stops(t, x.t, []int{x.at, x.n}, x.trap)
		h.stops(t, tupled(u8, x.t, char), []int{1, x.at, x.n, -1}, x.trap)
		h.stops(t, tupled(char, x.t), []int{-1, x.at, x.n}, api.TrapChar)
		h.stops(t, variant(u64, x.t), []int{1, x.at, x.n}, x.trap)
		h.stops(t, variant(u64, x.t), []int{2, x.at, x.n}, api.TrapCase)
		v, trap := UpArgs(h.Heap, takes(u8, x.t), 1, x.at, x.n)
		got(t, v, trap, nil, x.trap)
		l, trap := Lift(h.Heap, []int{x.at, x.n, 3, -1}, x.t, enum(3), char)
		got(t, l, trap, nil, x.trap)
		l, trap = Lift(h.Heap, []int{3, x.at, x.n}, enum(3), x.t)
		got(t, l, trap, nil, api.TrapCase)
		h.is(t, was, nil)
	}
}

// As many core values as the types have, of types that may be.
func TestLiftRefused(t *testing.T) {
	h := heap(page(), 0)
	got := func(l []api.Val, trap api.Trap, want ...api.Val) {
		t.Helper()
		got(t, l, trap, want, api.NoTrap)
	}
	stopped := func(l []api.Val, trap api.Trap) {
		t.Helper()
		if l != nil || trap != api.TrapHost {
			t.Error(short(l), trap)
		}
	}
	l, trap := Lift(h.Heap, nil)
	got(l, trap)
	l, trap = Lift(h.Heap, []int{})
	got(l, trap)
	stopped(Lift(h.Heap, []int{0}))
	stopped(Lift(nil, nil))
	for _, x := range []api.Type{u8, u64, char, enum(3), flags(3), own(1), words, list(u8), tupled(u8, words), option(u8), variant(u8, tupled(u64, words)), result(nothing, nothing), tupled(times(17, u8)...), option(words)} {
		n := len(ctype.Flat(x))
		core := make([]int, n)
		for _, k := range []int{0, 1, n - 1, n, n + 1, 2*n - 1, 2 * n, 2*n + 1, 100, 1 << 20} {
			l, trap := Lift(h.Heap, make([]int, k), x)
			if k == n {
				if trap != api.NoTrap || len(l) != 1 {
					t.Error(short(x), l, trap)
				}
			} else {
				stopped(l, trap)
			}
			l, trap = Lift(h.Heap, make([]int, k), x, x)
			if k == 2*n {
				if trap != api.NoTrap || len(l) != 2 {
					t.Error(short(x), l, trap)
				}
			} else {
				stopped(l, trap)
			}
		}
		stopped(Lift(nil, core, x))
		stopped(Lift(h.Heap, core))
		// Fewer of one type, more of another one, are as many together.
		l, trap := Lift(h.Heap, both(core, 0, 0), x, u8, u8)
		if trap != api.NoTrap || len(l) != 3 {
			t.Error(short(x), l, trap)
		}
		for _, y := range bad() {
			for k := range 5 {
				stopped(Lift(h.Heap, make([]int, k), y))
			}
			for k := range 3 {
				stopped(Lift(h.Heap, make([]int, n+k), x, y))
				stopped(Lift(h.Heap, make([]int, n+k), y, x))
			}
		}
	}
	// A heap without anything is none the less one.
	for _, h := range []*store.Heap{store.Empty(), {}} {
		l, trap := Lift(h, []int{7, 0, 0, 0, 0}, u8, words, list(u64))
		got(l, trap, val(7), str(""), all())
		l, trap = Lift(h, []int{1, 0}, words)
		if l != nil || trap != api.TrapBounds {
			t.Error(l, trap)
		}
	}
	// That they are too few is told ahead of what they are.
	stopped(Lift(h.Heap, []int{-1}, char, char))
	stopped(Lift(h.Heap, []int{9, 9, 9}, enum(3)))
}

// long makes types of texts, and core values, such that as many values and characters are made.
func long(parts int) ([]api.Type, []int) {
	var l []api.Type
	var core []int
	for parts > 0 {
		n := min(1000, parts-1)
		l = append(l, words)
		core = append(core, 0, n)
		parts -= n + 1
	}
	return l, core
}

// Values are made of MaxParts - 1 in all, at most, if they may be a tuple.
func TestParts(t *testing.T) {
	h := heap(page(), 0)
	h.m.Fill(0, 'a', 2000)
	many := func(core []int, want api.Trap, l ...api.Type) {
		t.Helper()
		v, trap := Lift(h.Heap, core, l...)
		if trap != want || trap == api.NoTrap && len(v) != len(l) || trap != api.NoTrap && v != nil {
			t.Errorf("%s: %s %d, not %d", short(l), short(v), trap, want)
		}
	}
	for _, n := range []int{1, 1000, 3000, 3998, 3999} {
		l, core := long(n)
		many(core, 0, l...)
		if n > 1000 && n < 3999 { // a tuple is a part more
			many(core, 0, tupled(l[:len(l)-1]...), l[len(l)-1])
		}
	}
	for _, n := range []int{4000, 4001, 4003, 5000, 9000} {
		l, core := long(n)
		many(core, api.TrapLength, l...)
		many(core, api.TrapLength, tupled(l...))
		many(append([]int{1}, core...), api.TrapLength, option(record(l...)))
		// The first trap is told ahead of it.
		many(both(core, 0xD800), api.TrapChar, both(l, char)...)
		many(both(core, 2, 0), api.TrapCase, both(l, option(u8))...)
		many(both(core, 65537, 0), api.TrapBounds, both(l, words)...)
		v, trap := UpArgs(h.Heap, takes(l...), core...)
		if len(core) <= 16 {
			got(t, v, trap, nil, api.TrapLength)
		}
	}
	l, core := long(3998)
	many(core, 0, tupled(l...))
	many(both(core, 7), 0, both(l, u8)...)
	many(both(core, 1, 7), api.TrapLength, both(l, option(u8))...)
	many(both(core, 0, 7), 0, both(l, option(u8))...)
}

// Of more types than a tuple has, or deeper ones, or such as are too many together, it is not asked.
func TestPartsOfNoTuple(t *testing.T) {
	h := heap(page(), 0)
	h.m.Fill(0, 'a', 2000)
	l, core := long(5000)
	pass := func(core []int, l ...api.Type) {
		t.Helper()
		if v, trap := Lift(h.Heap, core, l...); trap != api.NoTrap || len(v) != len(l) {
			t.Error(short(l), short(v), trap)
		}
	}
	stop := func(core []int, l ...api.Type) {
		t.Helper()
		if v, trap := Lift(h.Heap, core, l...); trap != api.TrapLength || v != nil {
			t.Error(short(l), short(v), trap)
		}
	}
	rest := 64 - len(l)
	stop(both(core, make([]int, rest)...), both(l, times(rest, u8)...)...)
	pass(both(core, make([]int, rest+1)...), both(l, times(rest+1, u8)...)...)
	pass(both(core, make([]int, 1000)...), both(l, times(1000, u8)...)...)
	// Others' traps are told all the same.
	v, trap := Lift(h.Heap, both(core, append(make([]int, 100), -1)...), both(l, append(times(100, u8), char)...)...)
	got(t, v, trap, nil, api.TrapChar)
	// A tuple around it would be within MaxDeep, and stand beyond it.
	stop(both(core, 0, 0), both(l, deep(u8, 14))...)
	pass(both(core, 0, 0), both(l, deep(u8, 15))...)
	// Of MaxParts types, with the tuple, and one more.
	for _, x := range []struct {
		n    int
		pass bool
	}{{487, false}, {493, false}, {494, false}, {495, true}, {496, true}} {
		// Tuples of 60 types, and one of those that are left.
		types, n := slices.Clone(l), 0
		for left := x.n; left > 0; left -= 61 {
			k := min(left, 61) - 1
			types = append(types, tupled(times(k, u8)...))
			n += k
		}
		if ok := ctype.Check(tupled(types...)) == api.OK; ok == x.pass {
			t.Error(x.n, ok)
		}
		zeros := both(core, make([]int, n)...)
		if x.pass {
			pass(zeros, types...)
		} else {
			stop(zeros, types...)
		}
	}
	// A list's values are at most MaxParts all the same: these are those of three of 1000 numbers, and of one more.
	cells := with(0, patch{0, nums(4000, 1000, 4000, 1000, 4000, 1000, 4000)})
	for _, x := range []struct {
		n                int
		alone, amongMany api.Trap
	}{{994, 0, 0}, {995, api.TrapLength, 0}, {996, api.TrapLength, 0}, {997, api.TrapLength, api.TrapLength}} {
		cells.m.Write(28, nums(x.n))
		v, trap := Lift(cells.Heap, []int{0, 4}, list(list(u8)))
		if trap != x.alone || trap == api.NoTrap && len(v[0].L[3].L) != x.n {
			t.Error(x.n, short(v), trap)
		}
		v, trap = Lift(cells.Heap, append(make([]int, 64), 0, 4), append(times(64, u8), list(list(u8)))...)
		if trap != x.amongMany || trap == api.NoTrap && len(v[64].L[3].L) != x.n {
			t.Error(x.n, short(v), trap)
		}
	}
}

// One behind the other: the first trap is that of the first value.
func TestOrder(t *testing.T) {
	h := with(0, patch{100, "\xFF"})
	faults := []struct {
		t    api.Type
		core []int
		trap api.Trap
	}{
		{char, []int{0xD800}, api.TrapChar}, {enum(2), []int{2}, api.TrapCase}, {words, []int{100, 1}, api.TrapText}, {words, []int{0, 1001}, api.TrapLength}, {words, []int{65537, 0}, api.TrapBounds}, {list(u16), []int{1, 0}, api.TrapAlign},
	}
	for _, a := range faults {
		for _, b := range faults {
			core := slices.Concat([]int{1}, a.core, b.core)
			for _, types := range [][]api.Type{{u8, a.t, b.t}, {tupled(u8, a.t), b.t}, {u8, record(a.t, b.t)}, {variant(u64, tupled(a.t, b.t))}, {tupled(u8, tupled(a.t), tupled(b.t))}} {
				l, trap := Lift(h.Heap, core, types...)
				got(t, l, trap, nil, a.trap)
			}
		}
	}
}
