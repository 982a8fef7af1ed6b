package store

import (
	"math"
	"slices"
	"strings"
	"testing"

	"scarf/api"
)

// The example of the chapter.
func TestExample(t *testing.T) {
	h := heap(page(), api.EncUTF8, 100)
	x := tuple(u8, words)
	v := all(num(7), str("hi"))
	h.lays(t, x, v, 0, api.NoTrap, []api.Want{{Align: 1, Size: 2, At: 100}}, patch{0, "\x07"}, patch{4, nums(100, 2)}, patch{100, "hi"})
	h.loads(t, x, 0, v)
}

// texts are those of an encoding: as which bytes they lie, what is asked for, and their length.
var texts = []struct {
	enc, align, n int
	text, s       string
}{
	{0, 1, 0, "", ""}, {0, 1, 2, "ab", "ab"}, {0, 1, 10, "aé€\U0001F600", "a\xC3\xA9\xE2\x82\xAC\xF0\x9F\x98\x80"}, {0, 1, 2, "ÿ", "\xC3\xBF"},
	{1, 2, 0, "", ""}, {1, 2, 2, "ab", "a\x00b\x00"}, {1, 2, 5, "aé€\U0001F600", "a\x00\xE9\x00\xAC\x20\x3D\xD8\x00\xDE"}, {1, 2, 1, "ÿ", "\xFF\x00"},
	{2, 2, 0, "", ""}, {2, 2, 2, "ab", "ab"}, {2, 2, 3, "aéÿ", "a\xE9\xFF"}, {2, 2, 1<<31 + 1, "Ā", "\x00\x01"}, {2, 2, 1<<31 + 5, "aé€\U0001F600", "a\x00\xE9\x00\xAC\x20\x3D\xD8\x00\xDE"}, {2, 2, 1, "ÿ", "\xFF"},
}

func TestTextsLaid(t *testing.T) {
	for _, x := range texts {
		want := api.Want{Align: x.align, Size: len(x.s), At: 100}
		h := heap(page(), x.enc, 100, 100)
		h.lays(t, words, str(x.text), 8, api.NoTrap, []api.Want{want}, patch{8, nums(100, x.n)}, patch{100, x.s})
		h.loads(t, words, 8, str(x.text))
		at, n, trap := h.Text(runes(x.text)...)
		if at != 100 || n != x.n || trap != api.NoTrap {
			t.Error(x.text, at, n, trap)
		}
		wanted(t, h, want, want)
		text(t, h, at, n, api.NoTrap, runes(x.text)...)
		if at, n, trap = h.Text(runes(x.text)...); at != 0 || n != 0 || trap != api.TrapHost {
			t.Error(at, n, trap)
		}
		// At the end of the memory, and beyond it.
		end := (api.Page - len(x.s)) / 2 * 2
		h = heap(page(), x.enc, end, end+2, 65535, 65537, 1<<32-1)
		if at, n, trap := h.Text(runes(x.text)...); at != end || n != x.n || trap != api.NoTrap {
			t.Error(x.text, at, n, trap)
		}
		for _, at := range []int{end + 2, 65535, 65537, 1<<32 - 1} {
			want := api.TrapBounds
			if at%x.align != 0 {
				want = api.TrapAlign
			} else if at == 65535 && len(x.s) <= 1 {
				want = api.NoTrap
			}
			m := h.m.Clone()
			a, n, trap := h.Text(runes(x.text)...)
			if trap != want || trap != api.NoTrap && (a != 0 || n != 0) {
				t.Error(x.text, at, a, n, trap, want)
			}
			if trap != api.NoTrap && bytesOf(m) != bytesOf(h.m) {
				t.Error("laid", x.text)
			}
		}
	}
}

// A text has at most as many units as a list has values.
func TestLongTexts(t *testing.T) {
	for _, x := range []struct {
		enc  int
		text string
		trap api.Trap
		n    int
	}{
		{0, strings.Repeat("a", 1000), 0, 1000}, {0, strings.Repeat("é", 500), 0, 1000}, {0, strings.Repeat("é", 500) + "a", api.TrapLength, 0}, {0, strings.Repeat("€", 333) + "a", 0, 1000}, {0, strings.Repeat("€", 334), api.TrapLength, 0}, {0, strings.Repeat("\U0001F600", 250), 0, 1000}, {0, strings.Repeat("\U0001F600", 251), api.TrapLength, 0},
		{1, strings.Repeat("€", 1000), 0, 1000}, {1, strings.Repeat("\U0001F600", 500), 0, 1000}, {1, strings.Repeat("\U0001F600", 500) + "a", api.TrapLength, 0},
		{2, strings.Repeat("ÿ", 1000), 0, 1000}, {2, strings.Repeat("€", 1000), 0, 1<<31 + 1000}, {2, strings.Repeat("\U0001F600", 500), 0, 1<<31 + 1000}, {2, "a" + strings.Repeat("\U0001F600", 500), api.TrapLength, 0},
	} {
		h := heap(page(), x.enc, 100, 200)
		at, n, trap := h.Text(runes(x.text)...)
		if trap != x.trap || n != x.n || at != 0 && trap != api.NoTrap {
			t.Error(short(x.text), at, n, trap)
		}
		// No room is asked for ahead of it.
		if trap != api.NoTrap {
			h = heap(page(), x.enc)
			h.lays(t, words, str(x.text), 8, api.TrapLength, nil)
			h.lays(t, tuple(u8, words, u8), all(num(1), str(x.text), num(2)), 8, api.TrapLength, nil, patch{8, "\x01"})
			_, _, trap = h.Text(runes(x.text)...)
			if trap != api.TrapLength || len(h.Wants()) != 0 {
				t.Error(trap, h.Wants())
			}
		} else {
			text(t, h, at, n, api.NoTrap, runes(x.text)...)
		}
	}
}

// What is no text.
func TestNoTexts(t *testing.T) {
	for _, enc := range encodings {
		for _, l := range [][]int{{-1}, {0xD800}, {0xDFFF}, {0x110000}, {'a', math.MaxInt64}, {math.MinInt64, 'a'}, times(1001, 97), times(1<<20, 97)} {
			h := heap(page(), enc, 100, 100)
			if at, n, trap := h.Text(l...); at != 0 || n != 0 || trap != api.TrapHost {
				t.Error(short(l), at, n, trap)
			}
			h.lays(t, words, api.Val{S: l}, 8, api.TrapHost, nil)
			h.lays(t, tuple(u8, words), all(num(1), api.Val{S: l}), 8, api.TrapHost, nil)
		}
	}
}

// What is no value of its type is not laid: that is told ahead of the place.
func TestNoValues(t *testing.T) {
	for _, x := range []struct {
		t api.Type
		v api.Val
	}{
		{boolean, num(2)}, {u8, num(256)}, {s8, num(128)}, {s8, num(-129)}, {u32, num(-1)}, {char, num(0xD800)}, {own(1), num(1 << 32)}, {flags(3), num(8)}, {enum(3), num(3)}, {enum(3), num(-1)},
		{u8, api.Val{N: 1, S: []int{1}}}, {u8, all(num(1))}, {words, num(1)}, {list(u8), num(1)}, {list(u8), all(num(1), num(256))}, {list(u8), all(times(1001, num(1))...)},
		{tuple(u8, u8), all(num(1))}, {tuple(u8), all(num(1), num(2))}, {record(u8, words), all(str("a"), num(1))}, {option(u8), sum(0, num(1))}, {option(u8), sum(1)}, {option(u8), sum(2)}, {result(u8, nothing), sum(1, num(1))},
	} {
		for _, at := range []int{0, 1, -1, 8, 65536, 1 << 40} {
			h := heap(page(), 0, 100, 100)
			h.lays(t, x.t, x.v, at, api.TrapHost, nil)
			h.lays(t, tuple(words, x.t), all(str("ab"), x.v), at, api.TrapHost, nil)
			if n, trap := h.List(x.t, x.v); n != 0 || trap != api.TrapHost {
				t.Error(short(x.t), n, trap)
			}
			if n, trap := h.List(x.t, api.Val{}, x.v); n != 0 || trap != api.TrapHost {
				t.Error(short(x.t), n, trap)
			}
			wanted(t, h)
		}
	}
}

func TestListsLaid(t *testing.T) {
	for _, x := range []struct {
		t           api.Type
		l           []api.Val
		align, size int
		s           string
	}{
		{u8, nil, 1, 0, ""}, {u64, nil, 8, 0, ""}, {u8, []api.Val{num(1), num(255)}, 1, 2, "\x01\xFF"}, {s16, []api.Val{num(-2), num(3)}, 2, 4, "\xFE\xFF\x03\x00"}, {u64, []api.Val{num(-1)}, 8, 8, "\xFF\xFF\xFF\xFF\xFF\xFF\xFF\xFF"},
		{tuple(u16, u8), []api.Val{all(num(1), num(2)), all(num(3), num(4))}, 2, 8, "\x01\x00\x02_\x03\x00\x04_"}, {option(u16), []api.Val{sum(0), sum(1, num(7))}, 2, 8, "\x00___\x01_\x07\x00"}, {list(u8), []api.Val{}, 4, 0, ""},
		{u8, times(1000, num(7)), 1, 1000, strings.Repeat("\x07", 1000)}, {boolean, []api.Val{num(1), num(0)}, 1, 2, "\x01\x00"}, {own(3), []api.Val{num(9)}, 4, 4, "\x09\x00\x00\x00"}, {enum(3), []api.Val{num(2)}, 1, 1, "\x02"},
	} {
		want := api.Want{Align: x.align, Size: x.size, At: 104}
		for _, enc := range encodings {
			h := heap(page(), enc, 104, 104, 65536, 65537)
			l := []patch{{8, nums(104, len(x.l))}}
			for i := range x.s {
				if x.s[i] != '_' {
					l = append(l, patch{104 + i, x.s[i : i+1]})
				}
			}
			h.lays(t, list(x.t), all(x.l...), 8, api.NoTrap, []api.Want{want}, l...)
			h.loads(t, list(x.t), 8, all(x.l...))
			items(t, h, x.t, 104, len(x.l), api.NoTrap, x.l...)
			h.m.Fill(0, blank, api.Page)
			m := h.m.Clone()
			for _, p := range l[1:] {
				m.Write(p.at, p.s)
			}
			at, trap := h.List(x.t, x.l...)
			if at != 104 || trap != api.NoTrap {
				t.Error(short(x.t), at, trap)
			}
			h.is(t, m, []api.Want{want, want})
			at, trap = h.List(x.t, x.l...)
			if x.size == 0 && (at != 65536 || trap != api.NoTrap) || x.size > 0 && (at != 0 || trap != api.TrapBounds) {
				t.Error(short(x.t), at, trap)
			}
			at, trap = h.List(x.t, x.l...)
			if at != 0 || x.align == 1 && trap != api.TrapBounds || x.align > 1 && trap != api.TrapAlign {
				t.Error(short(x.t), at, trap)
			}
			at, trap = h.List(x.t, x.l...)
			if at != 0 || trap != api.TrapHost {
				t.Error(short(x.t), at, trap)
			}
			h.is(t, m, []api.Want{want, want, {Align: x.align, Size: x.size, At: 65536}, {Align: x.align, Size: x.size, At: 65537}})
		}
	}
	// Of a list of the deepest type there is none.
	h := heap(page(), 0, 8, 8)
	if at, trap := h.List(deep(u8, 14)); at != 8 || trap != api.NoTrap {
		t.Error(at, trap)
	}
	if at, trap := h.List(deep(u8, 15)); at != 0 || trap != api.TrapHost {
		t.Error(at, trap)
	}
	if at, trap := h.List(words, times(4, api.Val{S: times(1000, 97)})...); at != 0 || trap != api.TrapHost {
		t.Error(at, trap)
	}
}

// Room is asked for in the order in which values stand, a list's ahead of what is in it.
func TestOrderOfRoom(t *testing.T) {
	x := tuple(words, list(tuple(u8, words)), option(list(u16)), words)
	v := all(str("ab"), all(all(num(1), str("c")), all(num(2), str("def"))), sum(1, all(num(5))), str("g"))
	wants := []api.Want{{Align: 1, Size: 2, At: 100}, {Align: 4, Size: 24, At: 200}, {Align: 1, Size: 1, At: 301}, {Align: 1, Size: 3, At: 400}, {Align: 2, Size: 2, At: 502}, {Align: 1, Size: 1, At: 603}}
	laid := [][]patch{
		{{100, "ab"}, {8, nums(100, 2)}}, {{200, "\x01"}}, {{301, "c"}, {204, nums(301, 1)}, {212, "\x02"}}, {{400, "def"}, {216, nums(400, 3)}, {16, nums(200, 2)}, {24, "\x01"}}, {{502, "\x05\x00"}, {28, nums(502, 1)}}, {{603, "g"}, {36, nums(603, 1)}},
	}
	places := []int{100, 200, 301, 400, 502, 603}
	for n := range 7 {
		// Where there is room n times alone, all that is ahead is laid.
		h := heap(page(), 0, places[:n]...)
		want := api.NoTrap
		if n < 6 {
			want = api.TrapHost
		}
		h.lays(t, x, v, 8, want, wants[:n], slices.Concat(laid[:n]...)...)
		if n == 6 {
			h.loads(t, x, 8, v)
			break
		}
		// Or it is not aligned, or not within.
		for _, odd := range []struct {
			at   int
			trap api.Trap
		}{{65553, api.TrapAlign}, {65552, api.TrapBounds}} {
			h = heap(page(), 0, append(slices.Clone(places[:n]), odd.at)...)
			if wants[n].Align == 1 {
				odd.trap = api.TrapBounds
			}
			w := wants[n]
			w.At = odd.at
			h.lays(t, x, v, 8, odd.trap, append(slices.Clone(wants[:n]), w), slices.Concat(laid[:n]...)...)
		}
	}
}

// Room may be anywhere: over the value itself, too. What is laid later stays.
func TestRoomOverThere(t *testing.T) {
	h := heap(page(), 0, 8)
	h.lays(t, words, str("abcdefghijk"), 8, api.NoTrap, []api.Want{{Align: 1, Size: 11, At: 8}}, patch{8, nums(8, 11) + "ijk"})
	h = heap(page(), 0, 4, 4)
	h.lays(t, tuple(words, words), all(str("ab"), str("cd")), 8, api.NoTrap, []api.Want{{Align: 1, Size: 2, At: 4}, {Align: 1, Size: 2, At: 4}}, patch{4, "cd"}, patch{8, nums(4, 2, 4, 2)})
	h = heap(page(), 0, 0)
	h.lays(t, tuple(u8, list(u8), u8), all(num(1), all(num(2), num(3)), num(4)), 0, api.NoTrap, []api.Want{{Align: 1, Size: 2, At: 0}}, patch{0, "\x02\x03"}, patch{4, nums(0, 2) + "\x04"})
}

// A value's place is looked at ahead of room.
func TestPlaceFirst(t *testing.T) {
	h := heap(page(), 0, 100, 100)
	for _, x := range []struct {
		at   int
		trap api.Trap
	}{{1, api.TrapAlign}, {-1, api.TrapAlign}, {65534, api.TrapAlign}, {65532, api.TrapBounds}, {-4, api.TrapBounds}, {math.MinInt64, api.TrapBounds}, {math.MaxInt64 - 3, api.TrapBounds}} {
		h.lays(t, words, str("ab"), x.at, x.trap, nil)
		h.lays(t, words, str(strings.Repeat("€", 1000)), x.at, x.trap, nil)
		h.lays(t, list(u8), all(num(1)), x.at, x.trap, nil)
		h.lays(t, option(list(u8)), sum(0), x.at, x.trap, nil)
	}
}
