package store

import (
	"math"
	"strings"
	"testing"

	"scarf/api"
	"scarf/value"
)

// lain are values, and the bytes as which they lie, those that are _ being of no matter.
var lain = []struct {
	t api.Type
	s string
	v api.Val
}{
	{boolean, "\x00", num(0)}, {boolean, "\x01", num(1)},
	{s8, "\x00", num(0)}, {s8, "\x7F", num(127)}, {s8, "\x80", num(-128)}, {s8, "\xFF", num(-1)},
	{u8, "\x00", num(0)}, {u8, "\x7F", num(127)}, {u8, "\x80", num(128)}, {u8, "\xFF", num(255)},
	{s16, "\x01\x00", num(1)}, {s16, "\xFF\x7F", num(32767)}, {s16, "\x00\x80", num(-32768)}, {s16, "\xFE\xFF", num(-2)},
	{u16, "\x01\x02", num(0x201)}, {u16, "\xFF\x7F", num(32767)}, {u16, "\x00\x80", num(32768)}, {u16, "\xFE\xFF", num(65534)},
	{s32, "\x01\x02\x03\x04", num(0x4030201)}, {s32, "\xFF\xFF\xFF\x7F", num(math.MaxInt32)}, {s32, "\x00\x00\x00\x80", num(math.MinInt32)}, {s32, "\xFE\xFF\xFF\xFF", num(-2)},
	{u32, "\x01\x02\x03\x04", num(0x4030201)}, {u32, "\xFF\xFF\xFF\x7F", num(math.MaxInt32)}, {u32, "\x00\x00\x00\x80", num(1 << 31)}, {u32, "\xFE\xFF\xFF\xFF", num(1<<32 - 2)},
	{s64, "\x01\x02\x03\x04\x05\x06\x07\x08", num(0x807060504030201)}, {s64, "\x00\x00\x00\x00\x00\x00\x00\x80", num(math.MinInt64)}, {s64, "\xFE\xFF\xFF\xFF\xFF\xFF\xFF\xFF", num(-2)},
	{u64, "\x01\x02\x03\x04\x05\x06\x07\x08", num(0x807060504030201)}, {u64, "\xFF\xFF\xFF\xFF\xFF\xFF\xFF\x7F", num(math.MaxInt64)}, {u64, "\xFE\xFF\xFF\xFF\xFF\xFF\xFF\xFF", num(-2)},
	{char, "\x00\x00\x00\x00", num(0)}, {char, "a\x00\x00\x00", num('a')}, {char, "\xFF\xD7\x00\x00", num(0xD7FF)}, {char, "\x00\xE0\x00\x00", num(0xE000)}, {char, "\xFF\xFF\x10\x00", num(0x10FFFF)},
	{own(3), "\x01\x02\x03\x04", num(0x4030201)}, {own(0), "\xFF\xFF\xFF\xFF", num(1<<32 - 1)}, {lent(1 << 20), "\x00\x00\x00\x80", num(1 << 31)}, {lent(0), "\xFF\xFF\xFF\xFF", num(1<<32 - 1)},
	{flags(1), "\x01", num(1)}, {flags(3), "\x05", num(5)}, {flags(8), "\xFF", num(255)}, {flags(9), "\xFF\x01", num(511)}, {flags(16), "\x01\x80", num(0x8001)}, {flags(17), "\x01\x80\x01\x00", num(0x18001)}, {flags(32), "\xFE\xFF\xFF\xFF", num(1<<32 - 2)},
	{enum(1), "\x00", num(0)}, {enum(64), "\x3F", num(63)}, {enum(3), "\x02", num(2)},
	{tuple(u8), "\x07", all(num(7))}, {record(u8, u32, u16), "\x07___\x01\x02\x03\x04\x05\x06__", all(num(7), num(0x4030201), num(0x605))},
	{tuple(u8, u16, u8, s8), "\x07_\x01\x02\x08\xFF", all(num(7), num(0x201), num(8), num(-1))}, {record(u64, u8), "\x07\x00\x00\x00\x00\x00\x00\x00\x08_______", all(num(7), num(8))},
	{tuple(tuple(u8, u16), tuple(u8, u8)), "\x01_\x02\x00\x03\x04", all(all(num(1), num(2)), all(num(3), num(4)))},
	{option(u8), "\x00_", sum(0)}, {option(u8), "\x01\x07", sum(1, num(7))}, {option(u64), "\x00_______________", sum(0)}, {option(u64), "\x01_______\xFF\xFF\xFF\xFF\xFF\xFF\xFF\xFF", sum(1, num(-1))},
	{option(option(u16)), "\x00_____", sum(0)}, {option(option(u16)), "\x01_\x00___", sum(1, sum(0))}, {option(option(u16)), "\x01_\x01_\x03\x04", sum(1, sum(1, num(0x403)))},
	{result(nothing, nothing), "\x00", sum(0)}, {result(nothing, nothing), "\x01", sum(1)}, {result(u8, u32), "\x00___\x07___", sum(0, num(7))}, {result(u8, u32), "\x01___\x07\x00\x00\x00", sum(1, num(7))},
	{result(nothing, u16), "\x00___", sum(0)}, {result(nothing, u16), "\x01_\x07\x00", sum(1, num(7))}, {result(u16, nothing), "\x00_\x07\x00", sum(0, num(7))}, {result(u16, nothing), "\x01___", sum(1)},
	{variant(nothing), "\x00", sum(0)}, {variant(u8), "\x00\x07", sum(0, num(7))}, {variant(nothing, u8, s64, tuple(u8, u16)), "\x03_______\x07_\x08\x00____", sum(3, all(num(7), num(8)))},
	{variant(nothing, u8, s64), "\x00_______________", sum(0)}, {variant(nothing, u8, s64), "\x01_______\x07_______", sum(1, num(7))}, {variant(nothing, u8, s64), "\x02_______\xFE\xFF\xFF\xFF\xFF\xFF\xFF\xFF", sum(2, num(-2))},
	{variant(times(64, u8)...), "\x3F\x07", sum(63, num(7))},
	{tuple(flags(2), boolean, enum(2), option(char), own(1)), "\x03\x01\x01_\x01___a\x00\x00\x00\x07\x00\x00\x00", all(num(3), num(1), num(1), sum(1, num('a')), num(7))},
}

// filled puts a byte where it is of no matter which one there is.
func filled(s string, c byte) string { return strings.ReplaceAll(s, "_", string([]byte{c})) }

// Each kind's values are read as they lie, and laid so, whatever the encoding is.
func TestKinds(t *testing.T) {
	for _, x := range lain {
		for _, enc := range encodings {
			for _, at := range []int{0, 4096, api.Page - len(x.s)} {
				for _, c := range []byte{0, 1, 0xFF} {
					with(enc, at, filled(x.s, c)).loads(t, x.t, at, x.v)
				}
				var l []patch
				for i := range x.s {
					if x.s[i] != '_' {
						l = append(l, patch{at + i, x.s[i : i+1]})
					}
				}
				heap(page(), enc).lays(t, x.t, x.v, at, api.NoTrap, nil, l...)
			}
		}
	}
}

// A place has to be a multiple of the type's alignment, and all of its bytes to be within.
func TestPlacesOfValues(t *testing.T) {
	for _, x := range []struct {
		t           api.Type
		v           api.Val
		size, align int
	}{
		{u8, num(0), 1, 1}, {u16, num(0), 2, 2}, {u32, num(0), 4, 4}, {u64, num(0), 8, 8}, {char, num(0), 4, 4}, {own(0), num(0), 4, 4}, {flags(9), num(0), 2, 2}, {enum(9), num(0), 1, 1},
		{tuple(u8, u16, u8), all(num(0), num(0), num(0)), 6, 2}, {option(u64), sum(0), 16, 8}, {record(u8, u8, u8), all(num(0), num(0), num(0)), 3, 1}, {result(u8, u32), sum(0, num(0)), 8, 4},
	} {
		for _, at := range []int{0, 1, 2, 3, 4, 5, 6, 7, 8, 12, 16, -1, -2, -4, -8, -16, 65519, 65520, 65527, 65528, 65529, 65530, 65531, 65532, 65533, 65534, 65535, 65536, 65537, 65544, 1 << 32, 1<<32 + 1, 1 << 33, math.MaxInt64, math.MaxInt64 - 15, math.MinInt64, math.MinInt64 + 1} {
			h := heap(page(), 0)
			h.m.Fill(0, 0, api.Page)
			want := api.NoTrap
			if at%x.align != 0 {
				want = api.TrapAlign
			} else if at < 0 || at > api.Page-x.size {
				want = api.TrapBounds
			}
			if want == api.NoTrap {
				h.loads(t, x.t, at, x.v)
			} else {
				h.fails(t, x.t, at, want)
			}
			h.lays(t, x.t, x.v, at, want, nil)
		}
	}
	for _, x := range []api.Type{words, list(u8), list(u64)} {
		h := heap(page(), 1)
		h.m.Fill(0, 0, api.Page)
		for _, at := range []int{2, 6, 65534, -2, 65538} {
			h.fails(t, x, at, api.TrapAlign)
		}
		for _, at := range []int{-4, -8, 65532, 65536, 1 << 32} {
			h.fails(t, x, at, api.TrapBounds)
		}
		h.loads(t, x, 65528, api.Val{})
		h.loads(t, x, 4, api.Val{})
	}
}

// A bool is 1, unless it is 0; bits without a name are passed over.
func TestOddNumbers(t *testing.T) {
	h := heap(page(), 0)
	read := func(x api.Type, want api.Trap, n int) {
		t.Helper()
		if v, trap := h.Load(x, 0); trap != want || !equal(v, num(n)) {
			t.Errorf("%s: %s %d, not %d %d", short(x), short(v), trap, n, want)
		}
	}
	for b := range 256 {
		h.m.Write(0, string([]byte{byte(b)}))
		read(boolean, api.NoTrap, min(b, 1))
		for n := 1; n <= 8; n++ {
			read(flags(n), api.NoTrap, b&(1<<n-1))
		}
		for _, n := range []int{1, 2, 3, 10, 63, 64} {
			if b < n {
				read(enum(n), api.NoTrap, b)
			} else {
				read(enum(n), api.TrapCase, 0)
			}
		}
	}
	for n := 9; n <= 32; n++ {
		h.m.Write(0, "\xFF\xFF\xFF\xFF")
		read(flags(n), api.NoTrap, 1<<n-1)
		h.m.Write(0, "\x05\xA0\xC3\x91")
		read(flags(n), api.NoTrap, 0x91C3A005&(1<<n-1))
	}
}

// Characters, cases that there are not.
func TestNoChars(t *testing.T) {
	for _, c := range []int{0xD800, 0xDBFF, 0xDC00, 0xDFFF, 0x110000, 1 << 31, 1<<32 - 1, 1<<24 + 'a'} {
		with(0, 0, nums(c)).fails(t, char, 0, api.TrapChar)
		with(0, 4, nums(c)).fails(t, tuple(u8, char), 0, api.TrapChar)
		with(0, 0, nums('a', c)).fails(t, tuple(char, char), 0, api.TrapChar)
		with(0, 0, nums(1, c)).fails(t, option(char), 0, api.TrapChar)
		with(0, 0, nums(0, c)).loads(t, option(char), 0, sum(0))
	}
	for _, x := range []struct {
		t api.Type
		n int
	}{{option(u8), 2}, {result(u8, nothing), 2}, {result(nothing, nothing), 2}, {variant(nothing), 1}, {variant(u8, u8, nothing), 3}, {variant(times(64, nothing)...), 64}, {enum(64), 64}} {
		for _, n := range []int{x.n, x.n + 1, 127, 128, 255} {
			with(0, 0, string([]byte{byte(n), 0})).fails(t, x.t, 0, api.TrapCase)
			with(0, 0, string([]byte{7, byte(n), 0})).fails(t, tuple(u8, x.t), 0, api.TrapCase)
		}
		if _, trap := with(0, 0, string([]byte{byte(x.n - 1), 0})).Load(x.t, 0); trap != api.NoTrap {
			t.Error(short(x.t), trap)
		}
	}
}

// Types that may not be.
func TestBadTypes(t *testing.T) {
	for _, x := range bad() {
		for _, at := range []int{0, 1, -1, 8, 1 << 40} {
			h := heap(page(), 0, 8, 8)
			h.fails(t, x, at, api.TrapHost)
			h.fails(t, tuple(u8, x), at, api.TrapHost)
			for _, v := range []api.Val{{}, num(1), num(-1), all(num(1)), str("a")} {
				h.lays(t, x, v, at, api.TrapHost, nil)
				h.lays(t, tuple(u8, x), all(num(1), v), at, api.TrapHost, nil)
				if n, trap := h.List(x, v); n != 0 || trap != api.TrapHost {
					t.Error(short(x), n, trap)
				}
			}
			if n, trap := h.List(x); n != 0 || trap != api.TrapHost {
				t.Error(short(x), n, trap)
			}
			items(t, h, x, at, 0, api.TrapHost)
			items(t, h, x, at, 1, api.TrapHost)
			items(t, h, tuple(u8, x), at, 1, api.TrapHost)
			wanted(t, h)
		}
	}
}

// Of which form a text is.
func TestTexts(t *testing.T) {
	for _, x := range []struct {
		enc  int
		s    string // the bytes, from 16 on
		n    int
		want string
	}{
		{0, "", 0, ""}, {1, "", 0, ""}, {2, "", 0, ""}, {2, "", 1 << 31, ""},
		{0, "ab", 2, "ab"}, {0, "ab", 1, "a"}, {0, "a\xC3\xA9\xE2\x82\xAC\xF0\x9F\x98\x80", 10, "aé€\U0001F600"},
		{1, "a\x00b\x00", 2, "ab"}, {1, "a\x00\xE9\x00\xAC\x20\x3D\xD8\x00\xDE", 5, "aé€\U0001F600"},
		{2, "a\xE9\xFF\x80", 4, "aéÿ\u0080"}, {2, "a\x00\xE9\x00\xAC\x20\x3D\xD8\x00\xDE", 1<<31 + 5, "aé€\U0001F600"}, {2, "a\x00\xE9\x00", 1<<31 + 2, "aé"}, {2, "a\x00\xE9\x00", 4, "a\x00é\x00"},
	} {
		h := with(x.enc, 16, x.s)
		text(t, h, 16, x.n, api.NoTrap, runes(x.want)...)
		h.m.Write(4, nums(16, x.n))
		h.loads(t, words, 4, str(x.want))
		h.m.Write(api.Page-len(x.s), x.s)
		text(t, h, api.Page-len(x.s), x.n, api.NoTrap, runes(x.want)...)
	}
	for _, x := range []struct {
		enc  int
		s    string
		n    int
		trap api.Trap
	}{
		{0, "\xFF", 1, api.TrapText}, {0, "\xC3\xA9", 1, api.TrapText}, {0, "\xC0\x80", 2, api.TrapText}, {0, "\xED\xA0\x80", 3, api.TrapText}, {0, "ab\xFF", 3, api.TrapText}, {0, "\xF4\x90\x80\x80", 4, api.TrapText},
		{1, "\x00\xD8", 1, api.TrapText}, {1, "\x00\xDC\x00\xD8", 2, api.TrapText}, {1, "\x3D\xD8\x00\xDE", 1, api.TrapText}, {1, "a\x00\x00\xDC", 2, api.TrapText},
		{2, "\x00\xD8", 1<<31 + 1, api.TrapText}, {2, "\x3D\xD8\x00\xDE", 1<<31 + 1, api.TrapText},
		{0, "", 1001, api.TrapLength}, {0, "", 1 << 31, api.TrapLength}, {0, "", 1<<31 + 1, api.TrapLength}, {0, "", 1<<32 - 1, api.TrapLength},
		{1, "", 1001, api.TrapLength}, {1, "", 1 << 31, api.TrapLength}, {1, "", 1<<31 + 1, api.TrapLength}, {1, "", 1<<32 - 1, api.TrapLength},
		{2, "", 1001, api.TrapLength}, {2, "", 1<<31 - 1, api.TrapLength}, {2, "", 1<<31 + 1001, api.TrapLength}, {2, "", 1<<32 - 1, api.TrapLength},
	} {
		h := with(x.enc, 16, x.s)
		text(t, h, 16, x.n, x.trap)
		h.m.Write(4, nums(16, x.n))
		h.fails(t, words, 4, x.trap)
		h.fails(t, tuple(words, u8), 4, x.trap)
	}
}

// A text's place is looked at behind its length, and ahead of its bytes, which are told by units.
func TestTextPlaces(t *testing.T) {
	type span struct{ at, n int }
	for enc, l := range [][]struct {
		span
		trap api.Trap
	}{
		{{span{65536, 0}, 0}, {span{65537, 0}, api.TrapBounds}, {span{1, 0}, 0}, {span{65535, 1}, 0}, {span{65535, 2}, api.TrapBounds}, {span{64536, 1000}, 0}, {span{64537, 1000}, api.TrapBounds}, {span{64537, 1001}, api.TrapLength}, {span{1<<32 - 1, 1}, api.TrapBounds}, {span{1<<32 - 1, 1001}, api.TrapLength}},
		{{span{65536, 0}, 0}, {span{65538, 0}, api.TrapBounds}, {span{65537, 0}, api.TrapAlign}, {span{1, 0}, api.TrapAlign}, {span{1, 1001}, api.TrapLength}, {span{65534, 1}, 0}, {span{65534, 2}, api.TrapBounds}, {span{65535, 2}, api.TrapAlign}, {span{63536, 1000}, 0}, {span{63538, 1000}, api.TrapBounds}, {span{1<<32 - 1, 1}, api.TrapAlign}},
		{{span{65536, 0}, 0}, {span{65538, 0}, api.TrapBounds}, {span{65537, 0}, api.TrapAlign}, {span{1, 1}, api.TrapAlign}, {span{1, 1001}, api.TrapLength}, {span{65534, 2}, 0}, {span{65534, 3}, api.TrapBounds}, {span{65534, 1<<31 + 1}, 0}, {span{65534, 1<<31 + 2}, api.TrapBounds}, {span{65535, 1<<31 + 2}, api.TrapAlign},
			{span{64536, 1000}, 0}, {span{64538, 1000}, api.TrapBounds}, {span{63536, 1<<31 + 1000}, 0}, {span{63538, 1<<31 + 1000}, api.TrapBounds}, {span{63539, 1<<31 + 1001}, api.TrapLength}, {span{65536, 1 << 31}, 0}, {span{65538, 1 << 31}, api.TrapBounds}},
	} {
		for _, x := range l {
			h := heap(page(), enc)
			h.m.Fill(0, 'a', api.Page)
			var want []int
			if x.trap == api.NoTrap {
				n := x.n &^ (1 << 31)
				c := 0x6161
				if enc == api.EncUTF8 || enc == api.EncLatin1 && n == x.n {
					c = 0x61
				}
				want = times(n, c)
			}
			text(t, h, x.at, x.n, x.trap, want...)
			h.m.Write(8, nums(x.at, x.n))
			if x.trap == api.NoTrap {
				h.loads(t, words, 8, api.Val{S: want})
			} else {
				h.fails(t, words, 8, x.trap)
			}
		}
	}
}

// Places and lengths of more than 32 bits.
func TestSpans(t *testing.T) {
	for _, n := range []int{-1, -8, 1 << 32, 1<<32 + 8, math.MinInt64, math.MaxInt64} {
		for _, enc := range encodings {
			h := heap(page(), enc)
			text(t, h, n, 0, api.TrapHost)
			text(t, h, 0, n, api.TrapHost)
			text(t, h, n, n, api.TrapHost)
			text(t, h, n, 5000, api.TrapHost)
			items(t, h, u8, n, 0, api.TrapHost)
			items(t, h, u8, 0, n, api.TrapHost)
			items(t, h, u8, 1, n, api.TrapHost)
			items(t, h, u64, n, 5000, api.TrapHost)
		}
	}
	h := heap(page(), 0)
	text(t, h, 1<<32-1, 0, api.TrapBounds)
	text(t, h, 0, 1<<32-1, api.TrapLength)
	items(t, h, u8, 1<<32-1, 0, api.TrapBounds)
	items(t, h, u8, 0, 1<<32-1, api.TrapLength)
}

func TestLists(t *testing.T) {
	for _, x := range []struct {
		t     api.Type
		at, n int
		trap  api.Trap
	}{
		{u8, 3, 0, 0}, {u8, 65536, 0, 0}, {u8, 65537, 0, api.TrapBounds}, {u8, 65535, 1, 0}, {u8, 65535, 2, api.TrapBounds}, {u8, 64536, 1000, 0}, {u8, 64537, 1000, api.TrapBounds}, {u8, 0, 1001, api.TrapLength}, {u8, 70000, 1001, api.TrapLength}, {u8, 0, 1 << 31, api.TrapLength}, {u8, 0, 1<<31 + 1, api.TrapLength},
		{u64, 4, 0, api.TrapAlign}, {u64, 65540, 1, api.TrapAlign}, {u64, 4, 1001, api.TrapLength}, {u64, 65536, 0, 0}, {u64, 65544, 0, api.TrapBounds}, {u64, 65528, 1, 0}, {u64, 65528, 2, api.TrapBounds}, {u64, 57536, 1000, 0}, {u64, 57544, 1000, api.TrapBounds},
		{tuple(u16, u8), 65534, 1, api.TrapBounds}, {tuple(u16, u8), 65532, 1, 0}, {tuple(u16, u8), 65528, 2, 0}, {tuple(u16, u8), 65529, 2, api.TrapAlign}, {tuple(u16, u8), 65530, 2, api.TrapBounds},
		{list(u8), 2, 1, api.TrapAlign}, {list(u8), 65528, 1, 0}, {list(u8), 65532, 1, api.TrapBounds}, {words, 65520, 2, 0},
	} {
		for _, enc := range encodings {
			h := heap(page(), enc)
			h.m.Fill(0, 0, api.Page)
			var want []api.Val
			if x.trap == api.NoTrap {
				v := api.Val{}
				if x.t.Kind == api.TTuple {
					v = all(num(0), num(0))
				}
				want = times(x.n, v)
			}
			items(t, h, x.t, x.at, x.n, x.trap, want...)
			h.m.Write(4, nums(x.at, x.n))
			if x.at >= 16 || x.n < 2 {
				if x.trap == api.NoTrap {
					h.loads(t, list(x.t), 4, all(want...))
				} else {
					h.fails(t, list(x.t), 4, x.trap)
				}
			}
		}
	}
	h := with(0, 8, "\x01\x02\x03\x04\x05\x06")
	items(t, h, u8, 9, 3, api.NoTrap, num(2), num(3), num(4))
	items(t, h, u16, 8, 3, api.NoTrap, num(0x201), num(0x403), num(0x605))
	items(t, h, tuple(u8, u8), 8, 2, api.NoTrap, all(num(1), num(2)), all(num(3), num(4)))
	items(t, h, tuple(u16, u8), 8, 1, api.NoTrap, all(num(0x201), num(3)))
	items(t, h, option(u8), 8, 1, api.NoTrap, sum(1, num(2)))
	items(t, h, option(u8), 8, 2, api.TrapCase)
	items(t, h, char, 8, 1, api.TrapChar)
	h = with(1, 8, nums(32, 2, 40, 1)+"________"+"a\x00b\x00____c\x00")
	items(t, h, words, 8, 2, api.NoTrap, str("ab"), str("c"))
	items(t, h, list(u16), 8, 2, api.NoTrap, all(num('a'), num('b')), all(num('c')))
	h.m.Write(8, nums(33))
	items(t, h, words, 8, 2, api.TrapAlign)
	items(t, h, list(u16), 8, 2, api.TrapAlign)
	// A list of the deepest type that may be is told, too.
	h = with(0, 8, nums(65536, 0))
	items(t, h, deep(u8, 15), 8, 1, api.NoTrap, api.Val{})
	h.loads(t, deep(u8, 15), 8, api.Val{})
	h.fails(t, deep(u8, 16), 8, api.TrapHost)
}

// What is read first has its trap first.
func TestFirstTrap(t *testing.T) {
	// A text with each fault, one at a time; behind it a char that is none, a case that there is not.
	type fault struct {
		place, n int
		trap     api.Trap
	}
	for _, x := range []fault{{3, 1001, api.TrapLength}, {65537, 1001, api.TrapLength}, {3, 1, api.TrapAlign}, {65537, 1, api.TrapAlign}, {65536, 1, api.TrapBounds}, {64, 1, api.TrapText}} {
		h := with(1, 0, nums(x.place, x.n, 0xD800, 9))
		h.m.Write(64, "\x00\xD8")
		h.fails(t, tuple(words, char, enum(2)), 0, x.trap)
		h.fails(t, tuple(tuple(words), char), 0, x.trap)
		// What is ahead of it is told ahead of it.
		h.m.Write(32, nums(0xD800, x.place, x.n))
		h.fails(t, tuple(char, words), 32, api.TrapChar)
		h.m.Write(32, nums(9, x.place, x.n))
		h.fails(t, tuple(enum(9), words), 32, api.TrapCase)
		h.fails(t, option(words), 32, api.TrapCase)
		h.m.Write(32, nums(1, x.place, x.n))
		h.fails(t, option(words), 32, x.trap)
		h.m.Write(32, nums(0, x.place, x.n))
		h.loads(t, option(words), 32, sum(0))
		// Values of a list are read one by one.
		h.m.Write(32, nums(64, 0, x.place, x.n))
		items(t, h, words, 32, 2, x.trap)
		items(t, h, words, 32, 1, api.NoTrap, api.Val{})
	}
	h := with(0, 0, nums('a', 0xD800, 5)+"\x09")
	h.fails(t, tuple(char, char, u32, enum(3)), 0, api.TrapChar)
	h.fails(t, tuple(char, s32, u32, enum(3), boolean), 0, api.TrapCase)
	h.loads(t, tuple(char, s32, u32, enum(10)), 0, all(num('a'), num(0xD800), num(5), num(9)))
}

// The parts of a value are counted as they are read: the value itself, its values, a text's characters.
func TestParts(t *testing.T) {
	h := heap(page(), 0)
	h.m.Fill(0, 0, api.Page)
	// At 8000 four lists, of places in which there are zeros.
	lists := func(l ...int) {
		for i, n := range l {
			h.m.Write(8000+8*i, nums(0, n))
		}
	}
	zeros := func(l ...int) []api.Val {
		var out []api.Val
		for _, n := range l {
			out = append(out, all(times(n, num(0))...))
		}
		return out
	}
	h.m.Write(16000, nums(8000, 4))
	lists(1000, 1000, 1000, 995)
	h.loads(t, list(list(u8)), 16000, all(zeros(1000, 1000, 1000, 995)...))
	items(t, h, list(u8), 8000, 4, api.NoTrap, zeros(1000, 1000, 1000, 995)...)
	lists(1000, 1000, 1000, 996)
	h.fails(t, list(list(u8)), 16000, api.TrapLength)
	items(t, h, list(u8), 8000, 4, api.NoTrap, zeros(1000, 1000, 1000, 996)...)
	lists(1000, 1000, 1000, 997)
	h.fails(t, list(list(u8)), 16000, api.TrapLength)
	items(t, h, list(u8), 8000, 4, api.TrapLength)
	// Texts likewise.
	lists(1000, 1000, 1000, 995)
	h.loads(t, list(words), 16000, all(api.Val{S: times(1000, 0)}, api.Val{S: times(1000, 0)}, api.Val{S: times(1000, 0)}, api.Val{S: times(995, 0)}))
	lists(1000, 1000, 1000, 996)
	h.fails(t, list(words), 16000, api.TrapLength)
	items(t, h, words, 8000, 4, api.NoTrap, api.Val{S: times(1000, 0)}, api.Val{S: times(1000, 0)}, api.Val{S: times(1000, 0)}, api.Val{S: times(996, 0)})
	lists(1000, 1000, 1000, 997)
	items(t, h, words, 8000, 4, api.TrapLength)
	text(t, h, 0, 1000, api.NoTrap, times(1000, 0)...)
	// That there are too many is told behind all other traps of a text, and ahead of all of the value that is one too many.
	h.m.Write(16100, "\xFF")
	for _, x := range []struct {
		place, n int
		trap     api.Trap
	}{{16100, 1, api.TrapText}, {70000, 1, api.TrapBounds}, {0, 1001, api.TrapLength}, {0, 1, api.TrapLength}, {0, 0, api.NoTrap}} {
		lists(1000, 1000, 1000, 995)
		h.m.Write(8024, nums(0, 994, x.place, x.n))
		h.m.Write(16000, nums(8000, 5))
		if x.trap == api.NoTrap {
			h.loads(t, list(words), 16000, all(api.Val{S: times(1000, 0)}, api.Val{S: times(1000, 0)}, api.Val{S: times(1000, 0)}, api.Val{S: times(994, 0)}, api.Val{}))
		} else {
			h.fails(t, list(words), 16000, x.trap)
		}
		h.m.Write(8024, nums(0, 995, x.place, x.n))
		h.fails(t, list(words), 16000, api.TrapLength)
	}
	// A char, a case, a list that is one too many.
	h.m.Write(16200, nums(8000, 4))
	for _, x := range []struct {
		t    api.Type
		s    string
		trap api.Trap
	}{{char, nums(0xD800), api.TrapChar}, {enum(2), "\x02", api.TrapCase}, {list(u8), nums(0, 1001), api.TrapLength}, {list(u8), nums(0, 1), api.TrapLength}, {list(u16), nums(1, 1), api.TrapAlign}, {u8, "\x00", api.NoTrap}} {
		h.m.Write(16208, x.s)
		lists(1000, 1000, 1000, 993) // with the tuple, the list and what is behind it 4000
		if _, trap := h.Load(tuple(list(list(u8)), x.t), 16200); trap != x.trap {
			t.Error(short(x.t), trap)
		}
		lists(1000, 1000, 1000, 994)
		h.fails(t, tuple(list(list(u8)), x.t), 16200, api.TrapLength)
	}
}

// value.MaxParts values of one byte, and more: none of a list has more than MaxItems.
func TestManyParts(t *testing.T) {
	h := heap(page(), 0)
	h.m.Fill(0, 0, api.Page)
	x := tuple(times(3, u8)...)
	v := all(num(0), num(0), num(0))
	items(t, h, x, 0, 1000, api.NoTrap, times(1000, v)...)
	x = tuple(times(4, u8)...)
	items(t, h, x, 0, 1000, api.TrapLength)
	items(t, h, x, 0, 800, api.NoTrap, times(800, all(times(4, num(0))...))...)
	items(t, h, x, 0, 801, api.TrapLength)
	items(t, h, option(u8), 0, 1000, api.NoTrap, times(1000, sum(0))...)
	h.m.Fill(0, 1, api.Page)
	items(t, h, option(option(option(u8))), 0, 1000, api.NoTrap, times(1000, sum(1, sum(1, sum(1, num(1)))))...)
	items(t, h, option(option(option(option(u8)))), 0, 801, api.TrapLength)
	if value.MaxParts != 4000 || value.MaxItems != 1000 {
		t.Error(value.MaxParts, value.MaxItems)
	}
}

// Lists that have themselves within are read till they are too many.
func TestLoadWithoutEnd(t *testing.T) {
	h := heap(page(), 0)
	for i := range 1000 {
		h.m.Write(8*i, nums(0, 1000))
	}
	h.fails(t, deep(u8, 15), 0, api.TrapLength)
	items(t, h, deep(u8, 15), 0, 1000, api.TrapLength)
	for i := range 1000 {
		h.m.Write(8*i, nums(0, 127))
	}
	h.fails(t, deep(words, 14), 0, api.TrapLength)
	h.m.Write(0, nums(0, 1))
	v := num(0)
	for range 14 {
		v = all(v)
	}
	h.loads(t, deep(u8, 14), 0, v)
}
