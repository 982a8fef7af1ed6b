package lift

import (
	"math"
	"slices"
	"strings"
	"testing"

	"scarf/api"
	"scarf/ctype"
	"scarf/store"
)

func TestWide(t *testing.T) {
	for _, x := range []struct {
		s    api.Sig
		wide bool
	}{
		{api.Sig{}, false}, {takes(u8), false}, {takes(times(15, u8)...), false}, {takes(times(16, u8)...), false}, {takes(times(17, u8)...), true}, {takes(times(64, u64)...), true}, {takes(times(8, words)...), false}, {takes(append(times(8, words), u8)...), true}, {takes(append(times(7, list(u8)), u8, u8)...), false},
		{takes(tupled(times(16, u8)...)), false}, {takes(tupled(times(17, u8)...)), true}, {takes(option(tupled(times(15, u8)...))), false}, {takes(option(tupled(times(16, u8)...))), true}, {takes(variant(tupled(times(15, u8)...), tupled(times(15, u64)...))), false}, {takes(list(tupled(times(60, u8)...))), false},
		{takes(flags(32), enum(64)), false}, {gives(tupled(times(17, u8)...)), false},
		{api.Sig{P: some(17), T: times(17, u8), R: words}, true}, {api.Sig{P: some(16), T: times(16, u8), R: tupled(times(17, u8)...)}, false},
		// A function that may not be has no core values.
		{takes(times(65, u8)...), false}, {api.Sig{P: some(17), T: times(18, u8)}, false}, {takes(append(times(17, u8), of(22))...), false}, {api.Sig{P: times(17, "a"), T: times(17, u8)}, false},
	} {
		if w := Wide(x.s); w != x.wide {
			t.Error(short(x.s), w)
		}
	}
	for _, s := range badSigs() {
		if Wide(s) {
			t.Error(short(s))
		}
	}
}

func TestLong(t *testing.T) {
	for _, x := range []struct {
		t    api.Type
		long bool
	}{
		{nothing, false}, {u8, false}, {u64, false}, {char, false}, {own(3), false}, {enum(64), false}, {flags(32), false}, {tupled(u64), false}, {record(tupled(s8)), false}, {variant(nothing), false}, {variant(nothing, nothing), false}, {result(nothing, nothing), false},
		{words, true}, {list(u8), true}, {tupled(u8, u8), true}, {option(u8), true}, {result(u8, nothing), true}, {result(nothing, u64), true}, {variant(nothing, u8), true}, {tupled(words), true}, {record(times(17, u8)...), true},
	} {
		s := gives(x.t)
		if l := Long(s); l != x.long {
			t.Error(short(x.t), l)
		}
		s.P, s.T = some(17), times(17, u8)
		if l := Long(s); l != x.long {
			t.Error(short(x.t), l)
		}
		if l := Long(takes(x.t)); l {
			t.Error(short(x.t))
		}
	}
	for _, x := range bad() {
		if Long(gives(x)) {
			t.Error(short(x))
		}
	}
}

// wide are functions of too many core values, arguments of theirs, and what their tuple's bytes and room are.
var wideOnes = []struct {
	s           api.Sig
	l           []api.Val
	align, size int
	s1          string
}{
	{takes(times(17, u8)...), []api.Val{{N: 1}, {N: 2}, {N: 3}, {N: 4}, {N: 5}, {N: 6}, {N: 7}, {N: 8}, {N: 9}, {N: 10}, {N: 11}, {N: 12}, {N: 13}, {N: 14}, {N: 15}, {N: 16}, {N: 255}}, 1, 17, "\x01\x02\x03\x04\x05\x06\x07\x08\x09\x0A\x0B\x0C\x0D\x0E\x0F\x10\xFF"},
	{takes(tupled(times(16, s8)...), u64), []api.Val{{L: times(16, api.Val{N: -1})}, {N: -2}}, 8, 24, strings.Repeat("\xFF", 16) + "\xFE" + strings.Repeat("\xFF", 7)},
	{takes(u8, tupled(times(16, u16)...)), []api.Val{{N: 9}, {L: times(16, api.Val{N: 513})}}, 2, 34, "\x09_" + strings.Repeat("\x01\x02", 16)},
}

// laidAt are the bytes of a text at a place, but for those that are not laid.
func laidAt(at int, s string) []patch {
	var l []patch
	for i := range len(s) {
		if s[i] != '_' {
			l = append(l, patch{at + i, s[i : i+1]})
		}
	}
	return l
}

// Arguments of too many core values lie one behind the other, as a tuple.
func TestWideArgs(t *testing.T) {
	for _, x := range wideOnes {
		want := api.Want{Align: x.align, Size: x.size, At: 1024}
		h := heap(page(), 0, 1024)
		core, trap := DownArgs(h.Heap, x.s, x.l...)
		gotCore(t, core, trap, []int{1024}, 0)
		h.is(t, page(), []api.Want{want}, laidAt(1024, x.s1)...)
		for _, at := range []int{1024, 1024 + 1<<32, 1024 - 1<<32, math.MinInt64 + 1024} {
			l, trap := UpArgs(h.Heap, x.s, at)
			got(t, l, trap, x.l, 0)
		}
		h.is(t, page(), []api.Want{want}, laidAt(1024, x.s1)...)
		// Room that may not be, or is not there.
		core, trap = DownArgs(h.Heap, x.s, x.l...)
		gotCore(t, core, trap, nil, api.TrapHost)
		end := api.Page - x.size/x.align*x.align
		h = heap(page(), 0, end, end+x.align, 1<<32-1)
		for _, stop := range []api.Trap{api.NoTrap, api.TrapBounds} {
			core, trap = DownArgs(h.Heap, x.s, x.l...)
			if trap != stop || (core == nil) == (stop == api.NoTrap) {
				t.Error(core, trap)
			}
		}
		core, trap = DownArgs(h.Heap, x.s, x.l...)
		if x.align == 1 {
			gotCore(t, core, trap, nil, api.TrapBounds)
		} else {
			gotCore(t, core, trap, nil, api.TrapAlign)
		}
		h.is(t, page(), []api.Want{{Align: x.align, Size: x.size, At: end}, {Align: x.align, Size: x.size, At: end + x.align}, {Align: x.align, Size: x.size, At: 1<<32 - 1}}, laidAt(end, x.s1)...)
		// What is read is stopped.
		for _, y := range []struct {
			at   int
			trap api.Trap
		}{{65536, api.TrapBounds}, {-8, api.TrapBounds}, {end + x.align, api.TrapBounds}, {1025, api.TrapAlign}, {-1, api.TrapAlign}} {
			if x.align == 1 && y.trap == api.TrapAlign {
				continue
			}
			l, trap := UpArgs(h.Heap, x.s, y.at)
			got(t, l, trap, nil, y.trap)
		}
		// Just one core value, and a heap.
		for _, n := range []int{0, 2, 3, 16, 17, 18, len(ctype.Args(x.s))} {
			l, trap := UpArgs(h.Heap, x.s, make([]int, n)...)
			got(t, l, trap, nil, api.TrapHost)
		}
		l, trap := UpArgs(nil, x.s, 1024)
		got(t, l, trap, nil, api.TrapHost)
		core, trap = DownArgs(nil, x.s, x.l...)
		gotCore(t, core, trap, nil, api.TrapHost)
		core, trap = DownArgs(h.Heap, x.s, x.l[1:]...)
		gotCore(t, core, trap, nil, api.TrapHost)
		core, trap = DownArgs(h.Heap, x.s, both(x.l, x.l[0])...)
		gotCore(t, core, trap, nil, api.TrapHost)
		core, trap = DownArgs(h.Heap, x.s)
		gotCore(t, core, trap, nil, api.TrapHost)
		if len(h.Wants()) != 3 {
			t.Error(h.Wants())
		}
	}
}

// Room for the tuple is asked for ahead of that for what is in it.
func TestWideRoom(t *testing.T) {
	s := takes(append(times(15, u8), words, list(u16))...)
	l := append(times(15, val(7)), str("ab"), all(val(8), val(9)))
	wants := []api.Want{{Align: 4, Size: 32, At: 400}, {Align: 1, Size: 2, At: 300}, {Align: 2, Size: 4, At: 200}}
	laid := [][]patch{{{400, strings.Repeat("\x07", 15)}}, {{300, "ab"}, {416, nums(300, 2)}}, {{200, "\x08\x00\x09\x00"}, {424, nums(200, 2)}}}
	h := heap(page(), 0)
	core, trap := DownArgs(h.Heap, s, l...)
	gotCore(t, core, trap, nil, api.TrapHost)
	h.is(t, page(), nil)
	for n := range 2 {
		h := heap(page(), 0, []int{400, 300}[:n+1]...)
		core, trap := DownArgs(h.Heap, s, l...)
		gotCore(t, core, trap, nil, api.TrapHost)
		h.is(t, page(), wants[:n+1], slices.Concat(laid[:n+1]...)...)
	}
	h = heap(page(), 0, 400, 300, 200)
	core, trap = DownArgs(h.Heap, s, l...)
	gotCore(t, core, trap, []int{400}, 0)
	h.is(t, page(), wants, slices.Concat(laid...)...)
	back, trap := UpArgs(h.Heap, s, 400)
	got(t, back, trap, l, 0)
	// The first trap of what is read: at the text ahead of that at the list.
	h.m.Write(424, nums(201, 1))
	back, trap = UpArgs(h.Heap, s, 400)
	got(t, back, trap, nil, api.TrapAlign)
	h.m.Write(416, nums(65537, 0))
	back, trap = UpArgs(h.Heap, s, 400)
	got(t, back, trap, nil, api.TrapBounds)
}

// Of arguments that are none as a tuple nothing is read, and no room is asked for, if they are wide.
func TestNoTuple(t *testing.T) {
	h := heap(page(), 0, 1024, 2048, 4096)
	h.m.Fill(0, 0, api.Page)
	most := takes(times(63, tupled(times(6, u8)...))...) // 63 * 7 = 441, and 1
	for _, x := range []struct {
		s    api.Sig
		wide bool
		l    []api.Val
		ok   bool
	}{
		{takes(append(times(17, u8), deep(u8, 14))...), true, append(times(17, val(0)), all()), true},
		{takes(append(times(17, u8), deep(u8, 15))...), true, append(times(17, val(0)), all()), false},
		{takes(deep(u8, 15)), false, []api.Val{all()}, true},
		{most, true, times(63, all(times(6, val(0))...)), true},
		{takes(append(most.T, tupled(times(57, u8)...))...), true, append(times(63, all(times(6, val(0))...)), all(times(57, val(0))...)), true},
		{takes(append(most.T, tupled(times(58, u8)...))...), true, append(times(63, all(times(6, val(0))...)), all(times(58, val(0))...)), false},
	} {
		if Wide(x.s) != x.wide || ctype.CheckSig(x.s) != api.OK {
			t.Error(short(x.s))
		}
		h := heap(h.m, 0, 1024, 2048, 4096)
		core, trap := DownArgs(h.Heap, x.s, x.l...)
		if x.ok {
			if trap != api.NoTrap || len(core) == 0 || len(h.Wants()) == 0 {
				t.Error(short(x.s), core, trap, h.Wants())
			}
			l, trap := UpArgs(h.Heap, x.s, core...)
			got(t, l, trap, x.l, 0)
			continue
		}
		gotCore(t, core, trap, nil, api.TrapHost)
		h.is(t, h.m, nil)
		l, trap := UpArgs(h.Heap, x.s, 1024)
		got(t, l, trap, nil, api.TrapHost)
		l, trap = UpArgs(h.Heap, x.s, 65536)
		got(t, l, trap, nil, api.TrapHost)
	}
}

// A wide function's arguments are made of MaxParts - 1, too: that is asked where they are read.
func TestWideParts(t *testing.T) {
	m := page()
	m.Fill(0, 'a', api.Page)
	s := takes(append(times(4, words), times(9, u8)...)...)
	for _, x := range []struct {
		n    int
		trap api.Trap
	}{{986, 0}, {987, api.TrapLength}} {
		h := heap(m, 0)
		// 4 texts, 9 numbers, 3000 characters, and the tuple.
		m.Write(1024, nums(2000, 1000, 2000, 1000, 2000, 1000, 2000, x.n)+"\x01\x02\x03\x04\x05\x06\x07\x08\x09")
		l, trap := UpArgs(h.Heap, s, 1024)
		if trap != x.trap || trap == api.NoTrap && len(l) != 13 || trap != api.NoTrap && l != nil {
			t.Error(x.n, short(l), trap)
		}
		l = slices.Concat(times(3, str(strings.Repeat("a", 1000))), []api.Val{str(strings.Repeat("a", x.n))}, times(9, val(7)))
		h = heap(page(), 0, 1024, 2000, 3000, 4000, 5000)
		core, trap := DownArgs(h.Heap, s, l...)
		if x.trap == api.NoTrap {
			gotCore(t, core, trap, []int{1024}, 0)
			back, trap := UpArgs(h.Heap, s, core...)
			got(t, back, trap, l, 0)
		} else {
			gotCore(t, core, trap, nil, api.TrapHost)
			h.is(t, page(), nil)
		}
	}
}

// Functions that may not be.
func TestNoFunctions(t *testing.T) {
	h := heap(page(), 0, times(9, 1024)...)
	for _, s := range badSigs() {
		for _, heap := range []*store.Heap{h.Heap, nil} {
			n := len(s.T)
			for _, k := range []int{0, 1, 2, n, n + 1, 2 * n} {
				l, trap := UpArgs(heap, s, make([]int, k)...)
				got(t, l, trap, nil, api.TrapHost)
				core, trap := DownArgs(heap, s, make([]api.Val, k)...)
				gotCore(t, core, trap, nil, api.TrapHost)
				v, trap := UpResult(heap, s, make([]int, k)...)
				if !isZero(v) || trap != api.TrapHost {
					t.Error(short(s), v, trap)
				}
			}
			for _, v := range []api.Val{{}, val(1), str("a"), all(val(0), val(0))} {
				for _, at := range []int{0, 1, -1} {
					core, trap := DownResult(heap, s, v, at)
					gotCore(t, core, trap, nil, api.TrapHost)
				}
			}
		}
	}
	h.is(t, page(), nil)
}

// Arguments that are not wide are lifted, and lowered, one behind the other.
func TestArgs(t *testing.T) {
	s := takes(u8, option(s16), words)
	h := heap(page(), 0, 100)
	l := []api.Val{val(9), sum(1, val(-3)), str("hi")}
	core, trap := DownArgs(h.Heap, s, l...)
	gotCore(t, core, trap, []int{9, 1, 1<<32 - 3, 100, 2}, 0)
	h.is(t, page(), []api.Want{{Align: 1, Size: 2, At: 100}}, patch{100, "hi"})
	back, trap := UpArgs(h.Heap, s, core...)
	got(t, back, trap, l, 0)
	for n := range 8 {
		if n != 5 {
			back, trap := UpArgs(h.Heap, s, make([]int, n)...)
			got(t, back, trap, nil, api.TrapHost)
		}
		if n != 3 {
			core, trap := DownArgs(h.Heap, s, make([]api.Val, n)...)
			gotCore(t, core, trap, nil, api.TrapHost)
		}
	}
	back, trap = UpArgs(nil, s, core...)
	got(t, back, trap, nil, api.TrapHost)
	core, trap = DownArgs(nil, s, l...)
	gotCore(t, core, trap, nil, api.TrapHost)
	// Of none nothing is lifted, or lowered; there has to be a heap all the same.
	for _, s := range []api.Sig{{}, gives(words), {Name: "no name", P: []string{}, T: []api.Type{}}} {
		back, trap := UpArgs(h.Heap, s)
		got(t, back, trap, nil, 0)
		core, trap := DownArgs(h.Heap, s)
		gotCore(t, core, trap, nil, 0)
		back, trap = UpArgs(nil, s)
		got(t, back, trap, nil, api.TrapHost)
		core, trap = DownArgs(nil, s)
		gotCore(t, core, trap, nil, api.TrapHost)
		back, trap = UpArgs(h.Heap, s, 0)
		got(t, back, trap, nil, api.TrapHost)
		core, trap = DownArgs(h.Heap, s, val(0))
		gotCore(t, core, trap, nil, api.TrapHost)
	}
	// Sixteen are not wide.
	s = takes(times(16, s8)...)
	core, trap = DownArgs(h.Heap, s, times(16, val(-1))...)
	gotCore(t, core, trap, times(16, 1<<32-1), 0)
	back, trap = UpArgs(h.Heap, s, core...)
	got(t, back, trap, times(16, val(-1)), 0)
	back, trap = UpArgs(h.Heap, s, 0)
	got(t, back, trap, nil, api.TrapHost)
}

// What a function gives: nothing, a core value, or a place.
func TestResults(t *testing.T) {
	for _, x := range []struct {
		t    api.Type
		v    api.Val
		core []int
		s    string
	}{
		{nothing, api.Val{}, nil, ""}, {u8, val(255), []int{255}, ""}, {s16, val(-1), []int{1<<32 - 1}, ""}, {u64, val(-1), []int{-1}, ""}, {enum(3), sum(2), []int{2}, ""}, {result(nothing, nothing), sum(1), []int{1}, ""}, {tupled(record(s8)), all(all(val(-1))), []int{1<<32 - 1}, ""}, {own(1), val(7), []int{7}, ""}, {flags(32), val(1 << 31), []int{1 << 31}, ""},
		{option(u16), sum(1, val(258)), nil, "\x01_\x02\x01"}, {option(u16), sum(0), nil, "\x00"}, {tupled(u8, u8), all(val(1), val(2)), nil, "\x01\x02"}, {result(nothing, u64), sum(1, val(-1)), nil, "\x01_______" + strings.Repeat("\xFF", 8)},
		{words, str("hi"), nil, nums(400, 2)}, {list(u8), all(val('h'), val('i')), nil, nums(400, 2)}, {option(words), sum(1, str("hi")), nil, "\x01___" + nums(400, 2)},
	} {
		s := gives(x.t)
		for _, args := range []int{0, 1, 17} {
			s.P, s.T = some(args), times(args, u8)
			for _, at := range []int{800, 800 + 1<<32, 800 - 1<<32} {
				h := heap(page(), 0, 400)
				core, trap := DownResult(h.Heap, s, x.v, at)
				gotCore(t, core, trap, x.core, 0)
				want := laidAt(800, x.s)
				if len(h.Wants()) > 0 {
					want = append(want, patch{400, "hi"})
				}
				h.is(t, page(), h.Wants(), want...)
				up := x.core
				if x.s != "" {
					up = []int{at}
				}
				v, trap := UpResult(h.Heap, s, up...)
				got(t, []api.Val{v}, trap, []api.Val{x.v}, 0)
				for _, k := range []int{0, 1, 2, 3, len(ctype.Flat(x.t))} {
					if k == len(up) {
						continue
					}
					if v, trap := UpResult(h.Heap, s, make([]int, k)...); !isZero(v) || trap != api.TrapHost {
						t.Error(short(x.t), v, trap)
					}
				}
				if v, trap := UpResult(nil, s, up...); !isZero(v) || trap != api.TrapHost {
					t.Error(short(x.t), v, trap)
				}
				core, trap = DownResult(nil, s, x.v, at)
				gotCore(t, core, trap, nil, api.TrapHost)
			}
		}
		// At a place that may not be; of what does not lie anywhere it is not asked.
		for _, y := range []struct {
			at   int
			trap api.Trap
		}{{65536, api.TrapBounds}, {-8, api.TrapBounds}, {1 << 31, api.TrapBounds}, {801, api.TrapAlign}, {math.MinInt64 + 801, api.TrapAlign}} {
			h := heap(page(), 0, 400)
			core, trap := DownResult(h.Heap, s, x.v, y.at)
			switch {
			case x.s == "":
				gotCore(t, core, trap, x.core, 0)
			case y.trap == api.TrapBounds || ctype.Align(x.t) > 1:
				gotCore(t, core, trap, nil, y.trap)
				h.is(t, page(), nil)
				v, trap := UpResult(h.Heap, s, y.at)
				if !isZero(v) || trap != y.trap {
					t.Error(short(x.t), v, trap)
				}
			}
		}
	}
	// What is none of the type is not asked where nothing is given.
	h := heap(page(), 0, 400)
	for _, v := range []api.Val{{}, val(1), val(-1), str("a"), all(val(1)), {S: []int{-1}}} {
		for _, at := range []int{0, 1, -1, 1 << 40} {
			core, trap := DownResult(h.Heap, api.Sig{}, v, at)
			gotCore(t, core, trap, nil, 0)
		}
	}
	h.is(t, page(), nil)
}

// What is read of a result, or laid, is stopped by the traps of the memory.
func TestResultsStopped(t *testing.T) {
	h := with(0, patch{800, nums(65537, 0)}, patch{808, nums(2)}, patch{816, nums(2, 0)}, patch{824, nums(100, 1)}, patch{100, "\xFF"})
	for _, x := range []struct {
		t    api.Type
		n    int
		trap api.Trap
	}{
		{words, 800, api.TrapBounds}, {option(u8), 808, api.TrapCase}, {result(u8, u8), 816, api.TrapCase}, {words, 824, api.TrapText}, {tupled(words, char), 824, api.TrapText}, {char, 0xD800, api.TrapChar}, {tupled(char), -1, api.TrapChar}, {enum(3), 3, api.TrapCase}, {result(nothing, nothing), -1, api.TrapCase}, {variant(nothing), 1, api.TrapCase},
	} {
		if v, trap := UpResult(h.Heap, gives(x.t), x.n); !isZero(v) || trap != x.trap {
			t.Error(short(x.t), v, trap)
		}
	}
	core, trap := DownResult(h.Heap, gives(words), str("a"), 800)
	gotCore(t, core, trap, nil, api.TrapHost)
	core, trap = DownResult(h.Heap, gives(tupled(u8, words)), all(val(9), str(strings.Repeat("é", 501))), 900)
	gotCore(t, core, trap, nil, api.TrapLength)
	// What was laid stays.
	if s, _ := h.m.Read(900, 2); s != "\x09\xA5" {
		t.Errorf("% x", s)
	}
}
