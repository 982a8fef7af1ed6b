package lift

import (
	"math"
	"slices"
	"strings"
	"testing"

	"scarf/api"
	"scarf/store"
)

// A number is lowered as its lowest 32 bits, one of 64 bits as it is.
func TestNumbersLowered(t *testing.T) {
	h := heap(page(), 0)
	for _, x := range []struct {
		t       api.Type
		n, want int
	}{
		{boolean, 0, 0}, {boolean, 1, 1}, {u8, 255, 255}, {s8, 127, 127}, {s8, -1, 1<<32 - 1}, {s8, -128, 1<<32 - 128}, {u16, 65535, 65535}, {s16, -2, 1<<32 - 2}, {s16, -32768, 1<<32 - 32768}, {s16, 32767, 32767},
		{u32, 1<<32 - 1, 1<<32 - 1}, {u32, 1 << 31, 1 << 31}, {s32, -1, 1<<32 - 1}, {s32, -1 << 31, 1 << 31}, {s32, 1<<31 - 1, 1<<31 - 1}, {char, 0x10FFFF, 0x10FFFF}, {own(1), 1<<32 - 1, 1<<32 - 1}, {lent(2), 0, 0},
		{flags(32), 1<<32 - 1, 1<<32 - 1}, {flags(9), 257, 257}, {flags(1), 1, 1}, {s64, -1, -1}, {s64, math.MinInt64, math.MinInt64}, {s64, math.MaxInt64, math.MaxInt64}, {u64, -1, -1}, {u64, math.MinInt64, math.MinInt64}, {u64, 1 << 32, 1 << 32},
	} {
		h.lowers(t, []api.Type{x.t}, []api.Val{val(x.n)}, []int{x.want}, 0, nil)
		h.lowers(t, []api.Type{u64, x.t, s8}, []api.Val{val(-7), val(x.n), val(-1)}, []int{-7, x.want, 1<<32 - 1}, 0, nil)
		// Also in the place of a number of 64 bits.
		h.lowers(t, []api.Type{variant(u64, x.t, boolean)}, []api.Val{sum(1, val(x.n))}, []int{1, x.want}, 0, nil)
		core, trap := DownArgs(h.Heap, takes(x.t), val(x.n))
		gotCore(t, core, trap, []int{x.want}, 0)
		core, trap = DownResult(h.Heap, gives(x.t), val(x.n), -1)
		gotCore(t, core, trap, []int{x.want}, 0)
	}
}

// A case, what is in it, and zeros.
func TestCasesLowered(t *testing.T) {
	h := heap(page(), 0)
	many := variant(nothing, u8, tupled(u64, s8), char)
	for _, x := range []struct {
		t    api.Type
		v    api.Val
		want []int
	}{
		{enum(1), sum(0), []int{0}}, {enum(64), sum(63), []int{63}}, {variant(nothing, nothing), sum(1), []int{1}}, {option(u8), sum(0), []int{0, 0}}, {option(u8), sum(1, val(0)), []int{1, 0}}, {option(s8), sum(1, val(-1)), []int{1, 1<<32 - 1}},
		{result(u8, s64), sum(0, val(9)), []int{0, 9}}, {result(u8, s64), sum(1, val(-9)), []int{1, -9}}, {result(s8, s64), sum(0, val(-9)), []int{0, 1<<32 - 9}}, {result(nothing, tupled(u8, u8)), sum(0), []int{0, 0, 0}}, {result(nothing, nothing), sum(1), []int{1}},
		{many, sum(0), []int{0, 0, 0}}, {many, sum(1, val(7)), []int{1, 7, 0}}, {many, sum(2, all(val(-7), val(-8))), []int{2, -7, 1<<32 - 8}}, {many, sum(3, val('a')), []int{3, 'a', 0}},
		{option(option(u8)), sum(1, sum(0)), []int{1, 0, 0}}, {option(option(u8)), sum(0), []int{0, 0, 0}}, {option(option(u8)), sum(1, sum(1, val(5))), []int{1, 1, 5}}, {option(many), sum(1, sum(1, val(5))), []int{1, 1, 5, 0}},
		{variant(u8, tupled(option(u64), u8)), sum(1, all(sum(0), val(6))), []int{1, 0, 0, 6}}, {variant(u8, tupled(option(u64), u8)), sum(0, val(6)), []int{0, 6, 0, 0}}, {option(words), sum(0), []int{0, 0, 0}}, {variant(list(u8), u64, nothing), sum(1, val(-1)), []int{1, -1, 0}},
		{record(u8, u64, enum(3)), all(val(1), val(-1), val(2)), []int{1, -1, 2}}, {tupled(tupled(tupled(u8))), all(all(all(val(3)))), []int{3}}, {tupled(option(u8), option(u8)), all(sum(0), sum(1, val(2))), []int{0, 0, 1, 2}},
	} {
		h.lowers(t, []api.Type{x.t}, []api.Val{x.v}, x.want, 0, nil)
		h.lowers(t, []api.Type{u8, x.t, u8}, []api.Val{val(250), x.v, val(251)}, slices.Concat([]int{250}, x.want, []int{251}), 0, nil)
		h.lifts(t, x.t, x.want, x.v)
		h.lowers(t, []api.Type{result(tupled(u8, x.t), nothing)}, []api.Val{sum(0, all(val(9), x.v))}, append([]int{0, 9}, x.want...), 0, nil)
		h.lowers(t, []api.Type{result(tupled(u8, x.t), nothing)}, []api.Val{sum(1)}, append([]int{1, 0}, make([]int, len(x.want))...), 0, nil)
	}
}

// Texts and lists are laid where room is given: the place, and the length.
func TestSpansLowered(t *testing.T) {
	for _, x := range []struct {
		enc   int
		t     api.Type
		v     api.Val
		align int
		s     string
		n     int
	}{
		{0, words, str(""), 1, "", 0}, {0, words, str("hi"), 1, "hi", 2}, {0, words, str("aé\U0001F600"), 1, "a\xC3\xA9\xF0\x9F\x98\x80", 7}, {1, words, str("aé\U0001F600"), 2, "a\x00\xE9\x00\x3D\xD8\x00\xDE", 4}, {1, words, str(""), 2, "", 0},
		{2, words, str("aé"), 2, "a\xE9", 2}, {2, words, str("aĀ"), 2, "a\x00\x00\x01", 1<<31 + 2}, {2, words, str("\U0001F600"), 2, "\x3D\xD8\x00\xDE", 1<<31 + 2}, {2, words, str(""), 2, "", 0},
		{0, list(u8), all(), 1, "", 0}, {0, list(u8), all(val(1), val(2)), 1, "\x01\x02", 2}, {0, list(u64), all(), 8, "", 0}, {1, list(s16), all(val(-2)), 2, "\xFE\xFF", 1}, {2, list(u32), all(val(-1 & 0xFFFFFFFF)), 4, "\xFF\xFF\xFF\xFF", 1}, {0, list(option(u8)), all(sum(0), sum(1, val(7))), 1, "\x00\xA5\x01\x07", 2},
		{0, list(u8), all(times(1000, val(7))...), 1, strings.Repeat("\x07", 1000), 1000}, {0, words, str(strings.Repeat("x", 1000)), 1, strings.Repeat("x", 1000), 1000},
	} {
		want := api.Want{Align: x.align, Size: len(x.s), At: 200}
		h := heap(page(), x.enc, 200)
		h.lowers(t, []api.Type{x.t}, []api.Val{x.v}, []int{200, x.n}, 0, []api.Want{want}, patch{200, x.s})
		h.lifted(t, x.t, []int{200, x.n}, x.v)
		// Within others, and one behind the other.
		more := api.Want{Align: x.align, Size: len(x.s), At: 2000}
		h = heap(page(), x.enc, 200, 2000)
		h.lowers(t, []api.Type{record(u8, x.t), x.t, u64}, []api.Val{all(val(1), x.v), x.v, val(-1)}, []int{1, 200, x.n, 2000, x.n, -1}, 0, []api.Want{want, more}, patch{200, x.s}, patch{2000, x.s})
		h = heap(page(), x.enc, 200)
		h.lowers(t, []api.Type{variant(u8, tupled(u64, u64, u64), x.t), u8}, []api.Val{sum(2, x.v), val(3)}, []int{2, 200, x.n, 0, 3}, 0, []api.Want{want}, patch{200, x.s})
		h = heap(page(), x.enc, 200, 2000)
		core, trap := DownArgs(h.Heap, takes(x.t, x.t), x.v, x.v)
		gotCore(t, core, trap, []int{200, x.n, 2000, x.n}, 0)
		// There is no room, or none that may be.
		h = heap(page(), x.enc)
		h.lowers(t, []api.Type{x.t}, []api.Val{x.v}, nil, api.TrapHost, nil)
		h = heap(page(), x.enc, 65537)
		stop := api.TrapBounds
		if x.align > 1 {
			stop = api.TrapAlign
		}
		want.At = 65537
		h.lowers(t, []api.Type{option(x.t), words}, []api.Val{sum(1, x.v), str("a")}, nil, stop, []api.Want{want})
	}
}

// lifted looks whether core values are lifted so, where room was asked for already.
func (h desk) lifted(t *testing.T, x api.Type, core []int, want api.Val) {
	t.Helper()
	l, trap := Lift(h.Heap, core, x)
	got(t, l, trap, []api.Val{want}, 0)
}

// Room is asked for in the order of the values; what was laid ahead of a trap stays.
func TestOrderOfRoom(t *testing.T) {
	types := []api.Type{words, tupled(list(u16), u8), option(list(words)), variant(u64, words), words}
	l := []api.Val{str("ab"), all(all(val(5)), val(9)), sum(1, all(str("c"), str("de"))), sum(1, str("f")), str("")}
	core := []int{100, 2, 200, 1, 9, 1, 300, 2, 1, 600, 1, 700, 0}
	wants := []api.Want{{Align: 1, Size: 2, At: 100}, {Align: 2, Size: 2, At: 200}, {Align: 4, Size: 16, At: 300}, {Align: 1, Size: 1, At: 400}, {Align: 1, Size: 2, At: 500}, {Align: 1, Size: 1, At: 600}, {Align: 1, At: 700}}
	laid := [][]patch{{{100, "ab"}}, {{200, "\x05\x00"}}, nil, {{400, "c"}, {300, nums(400, 1)}}, {{500, "de"}, {308, nums(500, 2)}}, {{600, "f"}}, nil}
	var room []int
	for n := range wants {
		h := heap(page(), 0, room...)
		h.lowers(t, types, l, nil, api.TrapHost, wants[:n], slices.Concat(laid[:n]...)...)
		room = append(room, wants[n].At)
	}
	// For what stands behind a text that is too long no room is asked for.
	long := heap(page(), 0, room...)
	long.lowers(t, []api.Type{words, words, words}, []api.Val{str("ab"), str(strings.Repeat("é", 501)), str("c")}, nil, api.TrapLength, wants[:1], laid[0]...)
	h := heap(page(), 0, room...)
	h.lowers(t, types, l, core, 0, wants, slices.Concat(laid...)...)
	back, trap := Lift(h.Heap, core, types...)
	got(t, back, trap, l, 0)
}

// Values that are not of their types, and as many as there are not types.
func TestLowerRefused(t *testing.T) {
	for _, x := range []struct {
		t api.Type
		v api.Val
	}{
		{boolean, val(2)}, {boolean, val(-1)}, {u8, val(256)}, {u8, val(-1)}, {s8, val(128)}, {s8, val(-129)}, {u16, val(65536)}, {s16, val(1 << 15)}, {u32, val(-1)}, {u32, val(1 << 32)}, {s32, val(1 << 31)}, {char, val(0xD800)}, {char, val(-1)}, {own(1), val(-1)}, {own(1), val(1 << 32)}, {lent(1), val(1 << 32)}, {flags(3), val(8)}, {enum(3), val(3)}, {enum(3), val(-1)},
		{u8, api.Val{N: 1, S: []int{1}}}, {u8, all(val(1))}, {u64, api.Val{L: []api.Val{{}}}}, {words, val(1)}, {words, api.Val{S: []int{0xD800}}}, {words, api.Val{S: times(1001, 97)}}, {list(u8), val(1)}, {list(u8), all(val(256))}, {list(u8), all(times(1001, val(1))...)},
		{tupled(u8, u8), all(val(1))}, {tupled(u8), all(val(1), val(2))}, {record(u8, words), all(str("a"), val(1))}, {option(u8), sum(0, val(1))}, {option(u8), sum(1)}, {option(u8), sum(2, val(1))}, {option(u8), sum(-1)}, {result(u8, nothing), sum(1, val(1))}, {variant(nothing), sum(0, val(0))},
		{list(words), all(times(4, str(strings.Repeat("a", 1000)))...)},
	} {
		for _, l := range [][]api.Val{{x.v}, {str("ab"), x.v}, {x.v, str("ab")}, {str("ab"), x.v, str("c")}} {
			var types []api.Type
			for _, v := range l {
				if equal(v, x.v) {
					types = append(types, x.t)
				} else {
					types = append(types, words)
				}
			}
			h := heap(page(), 0, 100, 200, 300, 400)
			h.lowers(t, types, l, nil, api.TrapHost, nil)
			h.lowers(t, []api.Type{tupled(types...)}, []api.Val{all(l...)}, nil, api.TrapHost, nil)
			core, trap := DownArgs(h.Heap, takes(types...), l...)
			gotCore(t, core, trap, nil, api.TrapHost)
			core, trap = DownArgs(h.Heap, takes(both(types, times(17, u8)...)...), both(l, times(17, val(0))...)...)
			gotCore(t, core, trap, nil, api.TrapHost)
			h.is(t, page(), nil)
		}
		h := heap(page(), 0, 100, 200)
		for _, at := range []int{0, 1, -1, 65536} {
			core, trap := DownResult(h.Heap, gives(x.t), x.v, at)
			gotCore(t, core, trap, nil, api.TrapHost)
		}
		h.is(t, page(), nil)
	}
	h := heap(page(), 0, times(100, 100)...)
	h.lowers(t, nil, nil, nil, 0, nil)
	h.lowers(t, []api.Type{}, []api.Val{}, nil, 0, nil)
	for n := range 4 {
		for k := range 4 {
			if n != k {
				h.lowers(t, times(n, u8), times(k, val(1)), nil, api.TrapHost, nil)
				h.lowers(t, times(n, words), times(k, str("a")), nil, api.TrapHost, nil)
			}
		}
	}
	for _, x := range bad() {
		for _, v := range []api.Val{{}, val(1), str("a"), all(val(0))} {
			h.lowers(t, []api.Type{x}, []api.Val{v}, nil, api.TrapHost, nil)
			h.lowers(t, []api.Type{words, x}, []api.Val{str("a"), v}, nil, api.TrapHost, nil)
		}
	}
	for _, n := range []int{0, 1, 2} {
		core, trap := Lower(nil, times(n, val(1)), times(n, u8)...)
		gotCore(t, core, trap, nil, api.TrapHost)
	}
	for _, h := range []*store.Heap{store.Empty(), {}} {
		core, trap := Lower(h, []api.Val{val(-1), sum(0)}, s8, option(words))
		gotCore(t, core, trap, []int{1<<32 - 1, 0, 0, 0}, 0)
		core, trap = Lower(h, []api.Val{str("")}, words)
		gotCore(t, core, trap, nil, api.TrapHost)
	}
}

// How many parts values have together is not asked, where they are lowered: each by itself may have MaxParts.
func TestManyLowered(t *testing.T) {
	v := all(times(3, str(strings.Repeat("a", 1000)))...)
	v.L = append(v.L, str(strings.Repeat("b", 995)))
	h := heap(page(), 0, times(30, 1024)...)
	core, trap := Lower(h.Heap, []api.Val{v, v, v}, list(words), list(words), list(words))
	gotCore(t, core, trap, []int{1024, 4, 1024, 4, 1024, 4}, 0)
	if len(h.Wants()) != 15 {
		t.Error(len(h.Wants()))
	}
	v.L[3].S = append(v.L[3].S, 'b')
	h = heap(page(), 0, times(30, 1024)...)
	h.lowers(t, []api.Type{list(words)}, []api.Val{v}, nil, api.TrapHost, nil)
	// Together they are none of a function's arguments.
	v.L[3].S = v.L[3].S[:994]
	core, trap = DownArgs(h.Heap, takes(list(words)), v)
	gotCore(t, core, trap, []int{1024, 4}, 0)
	v.L[3].S = v.L[3].S[:995]
	h = heap(page(), 0, times(30, 1024)...)
	core, trap = DownArgs(h.Heap, takes(list(words)), v)
	gotCore(t, core, trap, nil, api.TrapHost)
	h.is(t, page(), nil)
}
