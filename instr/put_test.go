package instr

import (
	"math"
	"slices"
	"testing"

	"scarf/api"
)

// laid is what instructions are laid as, ahead of the End, "-" if they may not be.
type laid struct {
	in api.Instr
	s  string
}

// byNumbers are instructions of each shape, at and beside the edges of their fields.
func byNumbers() []laid {
	const most = 1<<32 - 1
	return []laid{
		// None.
		{api.Instr{Op: 0x00}, "\x00"}, {api.Instr{Op: 0x01}, "\x01"}, {api.Instr{Op: 0x0F}, "\x0f"}, {api.Instr{Op: 0x1A}, "\x1a"}, {api.Instr{Op: 0x1B}, "\x1b"}, {api.Instr{Op: 0xD1}, "\xd1"}, {api.Instr{Op: 0x6A}, "\x6a"}, {api.Instr{Op: 0xC4}, "\xc4"},
		{api.Instr{Op: 0x01, A: 1}, "-"}, {api.Instr{Op: 0x01, A: -1}, "-"}, {api.Instr{Op: 0x6A, M: 1}, "-"}, {api.Instr{Op: 0x1A, B: 1}, "-"},
		// Block.
		{api.Instr{Op: 0x02, A: -64}, "\x02\x40\x0b"}, {api.Instr{Op: 0x03, A: -1}, "\x03\x7f\x0b"}, {api.Instr{Op: 0x04, A: -2}, "\x04\x7e\x0b"}, {api.Instr{Op: 0x02, A: -16}, "\x02\x70\x0b"},
		{api.Instr{Op: 0x02}, "\x02\x00\x0b"}, {api.Instr{Op: 0x02, A: 63}, "\x02\x3f\x0b"}, {api.Instr{Op: 0x02, A: 64}, "\x02\xc0\x00\x0b"}, {api.Instr{Op: 0x02, A: 127}, "\x02\xff\x00\x0b"}, {api.Instr{Op: 0x02, A: 128}, "\x02\x80\x01\x0b"},
		{api.Instr{Op: 0x03, A: most}, "\x03\xff\xff\xff\xff\x0f\x0b"}, {api.Instr{Op: 0x03, A: most + 1}, "-"},
		{api.Instr{Op: 0x02, A: -65}, "-"}, {api.Instr{Op: 0x02, A: -63}, "-"}, {api.Instr{Op: 0x02, A: -17}, "-"}, {api.Instr{Op: 0x02, A: -15}, "-"}, {api.Instr{Op: 0x02, A: -3}, "-"}, {api.Instr{Op: 0x02, A: -4}, "-"}, {api.Instr{Op: 0x02, A: -5}, "-"}, {api.Instr{Op: 0x02, A: math.MinInt}, "-"},
		{api.Instr{Op: 0x02, A: -64, L: nops(2)}, "\x02\x40\x01\x01\x0b"},
		{api.Instr{Op: 0x04, A: -64, L: nops(1), E: []api.Instr{{Op: 0x0F}}}, "\x04\x40\x01\x05\x0f\x0b"}, {api.Instr{Op: 0x04, A: -64, E: nops(1)}, "\x04\x40\x05\x01\x0b"}, {api.Instr{Op: 0x04, A: -64, L: nops(1)}, "\x04\x40\x01\x0b"},
		{api.Instr{Op: 0x04, A: -64, L: nops(1), E: []api.Instr{}}, "\x04\x40\x01\x0b"},
		{api.Instr{Op: 0x02, A: -64, E: nops(1)}, "-"}, {api.Instr{Op: 0x03, A: -64, L: nops(1), E: nops(1)}, "-"}, {api.Instr{Op: 0x03, A: -64, L: nops(1), E: []api.Instr{}}, "\x03\x40\x01\x0b"},
		{api.Instr{Op: 0x02, A: -64, M: 1}, "-"}, {api.Instr{Op: 0x04, A: -64, B: 1}, "-"},
		// Index.
		{api.Instr{Op: 0x0C}, "\x0c\x00"}, {api.Instr{Op: 0x20, A: 127}, "\x20\x7f"}, {api.Instr{Op: 0x24, A: 128}, "\x24\x80\x01"}, {api.Instr{Op: 0x10, A: most}, "\x10\xff\xff\xff\xff\x0f"}, {api.Instr{Op: 0xD2, A: 5}, "\xd2\x05"},
		{api.Instr{Op: 0x10, A: most + 1}, "-"}, {api.Instr{Op: 0x10, A: -1}, "-"}, {api.Instr{Op: 0xD2, M: 1}, "-"}, {api.Instr{Op: 0x21, B: 1}, "-"},
		// Labels.
		{api.Instr{Op: 0x0E}, "\x0e\x00\x00"}, {api.Instr{Op: 0x0E, N: []int{}, A: 3}, "\x0e\x00\x03"}, {api.Instr{Op: 0x0E, N: []int{1, 300}, A: 2}, "\x0e\x02\x01\xac\x02\x02"}, {api.Instr{Op: 0x0E, N: []int{most, 0}, A: most}, "\x0e\x02\xff\xff\xff\xff\x0f\x00\xff\xff\xff\xff\x0f"},
		{api.Instr{Op: 0x0E, N: make([]int, 1000), A: 1}, "\x0e\xe8\x07" + repeat("\x00", 1000) + "\x01"}, {api.Instr{Op: 0x0E, N: make([]int, 1001), A: 1}, "-"},
		{api.Instr{Op: 0x0E, N: []int{-1}}, "-"}, {api.Instr{Op: 0x0E, N: []int{0, most + 1}}, "-"}, {api.Instr{Op: 0x0E, A: -1}, "-"}, {api.Instr{Op: 0x0E, A: most + 1}, "-"}, {api.Instr{Op: 0x0E, M: 1}, "-"}, {api.Instr{Op: 0x0C, N: []int{0}}, "-"},
		// Indir.
		{api.Instr{Op: 0x11}, "\x11\x00\x00"}, {api.Instr{Op: 0x11, A: 300, M: 1}, "\x11\xac\x02\x01"}, {api.Instr{Op: 0x11, A: most, M: most}, "\x11\xff\xff\xff\xff\x0f\xff\xff\xff\xff\x0f"},
		{api.Instr{Op: 0x11, A: -1}, "-"}, {api.Instr{Op: 0x11, M: -1}, "-"}, {api.Instr{Op: 0x11, A: most + 1}, "-"}, {api.Instr{Op: 0x11, M: most + 1}, "-"}, {api.Instr{Op: 0x11, B: 1}, "-"},
		// Types.
		{api.Instr{Op: 0x1C, A: 0x7F}, "\x1c\x01\x7f"}, {api.Instr{Op: 0x1C, A: 0x7E}, "\x1c\x01\x7e"}, {api.Instr{Op: 0x1C, A: 0x70}, "\x1c\x01\x70"},
		{api.Instr{Op: 0x1C}, "-"}, {api.Instr{Op: 0x1C, A: 0x7D}, "-"}, {api.Instr{Op: 0x1C, A: 0x7C}, "-"}, {api.Instr{Op: 0x1C, A: 0x7B}, "-"}, {api.Instr{Op: 0x1C, A: 0x40}, "-"}, {api.Instr{Op: 0x1C, A: -1}, "-"}, {api.Instr{Op: 0x1C, A: 0x17F}, "-"}, {api.Instr{Op: 0x1C, A: 0x7F, M: 1}, "-"}, {api.Instr{Op: 0x1B, A: 0x7F}, "-"},
		// Place.
		{api.Instr{Op: 0x28}, "\x28\x00\x00"}, {api.Instr{Op: 0x28, B: 2, A: 300}, "\x28\x02\xac\x02"}, {api.Instr{Op: 0x37, B: 63, A: most}, "\x37\x3f\xff\xff\xff\xff\x0f"}, {api.Instr{Op: 0x37, B: 3, M: 1, A: 8}, "\x37\x43\x01\x08"}, {api.Instr{Op: 0x3E, B: 63, M: most, A: 0}, "\x3e\x7f\xff\xff\xff\xff\x0f\x00"}, {api.Instr{Op: 0x2C, M: 1}, "\x2c\x40\x01\x00"},
		{api.Instr{Op: 0x28, B: 64}, "-"}, {api.Instr{Op: 0x28, B: -1}, "-"}, {api.Instr{Op: 0x28, A: most + 1}, "-"}, {api.Instr{Op: 0x28, A: -1}, "-"}, {api.Instr{Op: 0x28, M: -1}, "-"}, {api.Instr{Op: 0x28, M: most + 1}, "-"},
		// Space.
		{api.Instr{Op: 0x25}, "\x25\x00"}, {api.Instr{Op: 0x3F, M: 1}, "\x3f\x01"}, {api.Instr{Op: 0x40, M: 128}, "\x40\x80\x01"}, {api.Instr{Op: 0xFC0B, M: 2}, "\xfc\x0b\x02"}, {api.Instr{Op: 0xFC0F}, "\xfc\x0f\x00"}, {api.Instr{Op: 0xFC10, M: most}, "\xfc\x10\xff\xff\xff\xff\x0f"}, {api.Instr{Op: 0xFC11, M: 3}, "\xfc\x11\x03"},
		{api.Instr{Op: 0x26, M: -1}, "-"}, {api.Instr{Op: 0x26, M: most + 1}, "-"}, {api.Instr{Op: 0x26, A: 1}, "-"}, {api.Instr{Op: 0xFC0B, A: 1}, "-"}, {api.Instr{Op: 0x3F, B: 1}, "-"},
		// Spaces: M stands ahead of A.
		{api.Instr{Op: 0xFC0A}, "\xfc\x0a\x00\x00"}, {api.Instr{Op: 0xFC0A, M: 1, A: 2}, "\xfc\x0a\x01\x02"}, {api.Instr{Op: 0xFC0E, M: most, A: 300}, "\xfc\x0e\xff\xff\xff\xff\x0f\xac\x02"},
		{api.Instr{Op: 0xFC0E, M: -1}, "-"}, {api.Instr{Op: 0xFC0E, A: -1}, "-"}, {api.Instr{Op: 0xFC0A, M: most + 1}, "-"}, {api.Instr{Op: 0xFC0A, A: most + 1}, "-"}, {api.Instr{Op: 0xFC0A, B: 1}, "-"},
		// Const.
		{api.Instr{Op: 0x41}, "\x41\x00"}, {api.Instr{Op: 0x41, A: -1}, "\x41\x7f"}, {api.Instr{Op: 0x41, A: 64}, "\x41\xc0\x00"}, {api.Instr{Op: 0x41, A: 1<<31 - 1}, "\x41\xff\xff\xff\xff\x07"}, {api.Instr{Op: 0x41, A: -1 << 31}, "\x41\x80\x80\x80\x80\x78"}, {api.Instr{Op: 0x41, A: 1 << 31}, "-"}, {api.Instr{Op: 0x41, A: -1<<31 - 1}, "-"}, {api.Instr{Op: 0x41, A: most}, "-"},
		{api.Instr{Op: 0x42, A: -1}, "\x42\x7f"}, {api.Instr{Op: 0x42, A: 1 << 31}, "\x42\x80\x80\x80\x80\x08"}, {api.Instr{Op: 0x42, A: math.MaxInt}, "\x42\xff\xff\xff\xff\xff\xff\xff\xff\xff\x00"}, {api.Instr{Op: 0x42, A: math.MinInt}, "\x42\x80\x80\x80\x80\x80\x80\x80\x80\x80\x7f"},
		{api.Instr{Op: 0x41, M: 1}, "-"}, {api.Instr{Op: 0x42, B: 1}, "-"},
		// Null.
		{api.Instr{Op: 0xD0}, "\xd0\x70"}, {api.Instr{Op: 0xD0, A: 0x70}, "-"}, {api.Instr{Op: 0xD0, A: -16}, "-"}, {api.Instr{Op: 0xD0, M: 1}, "-"},
		// No shape.
		{api.Instr{Op: 0x05}, "-"}, {api.Instr{Op: 0x0B}, "-"}, {api.Instr{Op: 0x43}, "-"}, {api.Instr{Op: 0xFD}, "-"}, {api.Instr{Op: 0xFC}, "-"}, {api.Instr{Op: 0xFC00}, "-"}, {api.Instr{Op: 0xFC08}, "-"}, {api.Instr{Op: 0xFF}, "-"}, {api.Instr{Op: 0x101}, "-"}, {api.Instr{Op: -1}, "-"},
	}
}

// 5.2: each shape by numbers, alone, behind others, within blocks.
func TestPut(t *testing.T) {
	for _, x := range byNumbers() {
		n, ok := total([]api.Instr{x.in}), x.s != "-"
		asks(t, []api.Instr{x.in}, n, ok, x.s+"\x0b")
		asks(t, []api.Instr{{Op: 0x1A}, x.in, {Op: 0x01}}, n+2, ok, "\x1a"+x.s+"\x01\x0b")
		asks(t, []api.Instr{{Op: 0x03, A: -64, L: []api.Instr{x.in}}}, n+1, ok, "\x03\x40"+x.s+"\x0b\x0b")
		asks(t, []api.Instr{{Op: 0x04, A: -1, L: []api.Instr{{Op: 0x00}, x.in}, E: []api.Instr{x.in, x.in}}}, 3*n+2, ok, "\x04\x7f\x00"+x.s+"\x05"+x.s+x.s+"\x0b\x0b")
	}
	asks(t, nil, 0, true, "\x0b")
	asks(t, []api.Instr{}, 0, true, "\x0b")
	asks(t, []api.Instr{{Op: 0x41, A: -1}, {Op: 0x1A}}, 2, true, "\x41\x7f\x1a\x0b")
}

// asks holds Count and Put against what they are to tell.
func asks(t *testing.T, l []api.Instr, n int, ok bool, s string) {
	t.Helper()
	e := api.OK
	if !ok {
		n, s, e = 0, "", api.ErrArg
	}
	if gn, gok := Count(l); gn != n || gok != ok {
		t.Errorf("Count(%v): %d %v, want %d %v", l, gn, gok, n, ok)
	}
	if gs, ge := Put(l); gs != s || ge != e {
		t.Errorf("Put(%v): %x %d, want %x %d", l, gs, ge, s, e)
	}
}

// 5.2: each field of each opcode at each of the edges, with its others as they may be, and as they may not; what may be is just what the chapter's table says.
func TestFields(t *testing.T) {
	b := newBook()
	for _, in := range some() {
		if _, ok := Count([]api.Instr{in}); !ok {
			t.Fatalf("%v may not be", in)
		}
		for _, n := range edges() {
			for field := range 5 {
				x := in
				switch field {
				case 0:
					x.A = n
				case 1:
					x.B = n
				case 2:
					x.M = n
				case 3:
					x.N = []int{n}
				case 4:
					x.N = []int{0, 1, n, 2}
				}
				if _, ok := Count([]api.Instr{x}); ok != b.plainMay(x) {
					t.Errorf("Count(%v): %v", x, ok)
				}
				if _, e := Put([]api.Instr{x}); (e == api.OK) != b.plainMay(x) {
					t.Errorf("Put(%v): %d", x, e)
				}
			}
		}
	}
}

// 5.2: lists that an opcode has not; empty ones are as nil ones.
func TestLists(t *testing.T) {
	b := newBook()
	for _, in := range some() {
		for _, change := range []func(x *api.Instr){
			func(x *api.Instr) { x.N = []int{0} },
			func(x *api.Instr) { x.N = make([]int, 1000) },
			func(x *api.Instr) { x.N = make([]int, 1001) },
			func(x *api.Instr) { x.L = nops(1) },
			func(x *api.Instr) { x.E = nops(1) },
			func(x *api.Instr) { x.L, x.E = nops(1), nops(1) },
			func(x *api.Instr) { x.N, x.L, x.E = nil, nil, nil },
			func(x *api.Instr) { x.N, x.L, x.E = []int{}, []api.Instr{}, []api.Instr{} },
		} {
			x := in
			change(&x)
			if _, ok := Count([]api.Instr{x}); ok != b.plainMay(x) {
				t.Errorf("Count(%v): %v", x, ok)
			}
		}
		bare, empty := in, in
		bare.N, bare.L, bare.E = nil, nil, nil
		empty.N, empty.L, empty.E = []int{}, []api.Instr{}, []api.Instr{}
		s, e := Put([]api.Instr{bare})
		if again, f := Put([]api.Instr{empty}); s != again || e != api.OK || f != api.OK {
			t.Errorf("%v: %x %d, %x %d", bare, s, e, again, f)
		}
	}
}

// 5.2: MaxInstrs instructions and one more, those within others counted, wherever they stand.
func TestMaxInstrs(t *testing.T) {
	in := func(op, l, e int) api.Instr { return api.Instr{Op: op, A: -64, L: nops(l), E: nops(e)} }
	for _, x := range []struct {
		l []api.Instr
		n int
	}{
		{nops(8191), 8191}, {nops(8192), 8192}, {nops(8193), 0}, {nops(20000), 0},
		{[]api.Instr{in(0x02, 8191, 0)}, 8192}, {[]api.Instr{in(0x02, 8192, 0)}, 0},
		{[]api.Instr{in(0x04, 4000, 4191)}, 8192}, {[]api.Instr{in(0x04, 4000, 4192)}, 0}, {[]api.Instr{in(0x04, 0, 8192)}, 0}, {[]api.Instr{in(0x04, 8192, 0)}, 0},
		{append(nops(8191), in(0x03, 0, 0)), 8192}, {append(nops(8191), in(0x03, 1, 0)), 0}, {append(nops(8192), in(0x03, 0, 0)), 0},
		{append([]api.Instr{in(0x03, 4000, 0)}, nops(4191)...), 8192}, {append([]api.Instr{in(0x03, 4000, 0)}, nops(4192)...), 0},
		{append([]api.Instr{in(0x04, 0, 4000)}, nops(4191)...), 8192}, {append([]api.Instr{in(0x04, 0, 4000)}, nops(4192)...), 0},
		{nest(32, nops(8160)), 8192}, {nest(32, nops(8161)), 0},
		{slices.Repeat([]api.Instr{in(0x02, 0, 0)}, 8192), 8192}, {slices.Repeat([]api.Instr{in(0x02, 0, 0)}, 8193), 0}, {slices.Repeat([]api.Instr{in(0x04, 1, 2)}, 2048), 8192}, {slices.Repeat([]api.Instr{in(0x04, 1, 2)}, 2049), 0},
	} {
		if n, ok := Count(x.l); n != x.n || ok != (x.n > 0) {
			t.Errorf("Count: %d %v, want %d", n, ok, x.n)
		}
		if s, e := Put(x.l); (e == api.OK) != (x.n > 0) || e != api.OK && (s != "" || e != api.ErrArg) {
			t.Errorf("Put: %d bytes, %d; want %d instructions", len(s), e, x.n)
		}
	}
}

// 5.2: MaxNest blocks in one another and one more, of all kinds; other instructions may stand within them all.
func TestMaxNest(t *testing.T) {
	for _, x := range []struct {
		l []api.Instr
		n int
	}{
		{nest(31, nil), 31}, {nest(32, nil), 32}, {nest(33, nil), 0}, {nest(34, nil), 0}, {nest(60, nops(1)), 0},
		{nest(32, nops(3)), 35}, {nest(32, []api.Instr{{Op: 0x0C, A: 5}}), 33},
		{nest(32, []api.Instr{{Op: 0x02, A: -64}}), 0}, {nest(32, []api.Instr{{Op: 0x03, A: -64}}), 0}, {nest(32, []api.Instr{{Op: 0x04, A: -64}}), 0}, {nest(31, []api.Instr{{Op: 0x04, A: -64}, {Op: 0x02, A: 7}}), 33},
		{append(nest(32, nil), nest(32, nil)...), 64}, {append(nest(32, nil), nest(33, nil)...), 0}, {append(nest(33, nil), nops(1)...), 0},
	} {
		if n, ok := Count(x.l); n != x.n || ok != (x.n > 0) {
			t.Errorf("Count: %d %v, want %d", n, ok, x.n)
		}
		if s, e := Put(x.l); (e == api.OK) != (x.n > 0) || e != api.OK && (s != "" || e != api.ErrArg) {
			t.Errorf("Put: %x %d, want %d", s, e, x.n)
		}
	}
	for _, op := range []int{0x02, 0x03, 0x04} {
		for els := range 2 {
			for _, blocks := range []int{32, 33} {
				var l []api.Instr
				for range blocks {
					if in := (api.Instr{Op: op, A: -64, L: l}); op == 0x04 && els == 1 {
						in.L, in.E = nil, l
						l = []api.Instr{in}
					} else {
						l = []api.Instr{in}
					}
				}
				if _, ok := Count(l); ok != (blocks == 32) {
					t.Errorf("%d blocks of %x: %v", blocks, op, ok)
				}
			}
		}
	}
}

// P1: lists that stand within themselves come to an end, and may not be.
func TestWithinItself(t *testing.T) {
	for _, width := range []int{1, 2, 50} {
		l := make([]api.Instr, width)
		for i := range l {
			l[i] = api.Instr{Op: 0x04, A: -64, L: l, E: l}
		}
		never(t, l)
	}
	// Many lists that are the same one: what counts is how often it stands there.
	l := nops(1)
	for range 31 {
		l = []api.Instr{{Op: 0x04, A: -64, L: l, E: l}, {Op: 0x02, A: -64, L: l}}
	}
	never(t, l)
}

// never asks that instructions may not be.
func never(t *testing.T, l []api.Instr) {
	t.Helper()
	if n, ok := Count(l); n != 0 || ok {
		t.Errorf("Count: %d %v", n, ok)
	}
	if s, e := Put(l); s != "" || e != api.ErrArg {
		t.Errorf("Put: %x %d", s, e)
	}
}

// R4: what is handed in stays as it was, and what lies behind a list's length is not looked at.
func TestPutKeeps(t *testing.T) {
	l := append(some(), nest(3, some())...)
	given := deep(l)
	first, e := Put(l)
	if n, ok := Count(l); !same(l, given) || e != api.OK || !ok || n != total(given) {
		t.Errorf("changed, or %d, %d %v", e, n, ok)
	}
	if again, e := Put(given); again != first || e != api.OK {
		t.Error("not the same again")
	}
	bad := []api.Instr{{Op: 0x01}, {Op: 0xFF}, {Op: 0x43, A: 1}}
	labels := []int{1, -1, 1 << 40}
	in := []api.Instr{{Op: 0x04, A: -64, L: bad[:1], E: bad[:0]}, {Op: 0x0E, N: labels[:1], A: 2}, bad[2]}
	asks(t, in[:2], 3, true, "\x04\x40\x01\x0b\x0e\x01\x01\x02\x0b")
	if !same(bad, []api.Instr{{Op: 0x01}, {Op: 0xFF}, {Op: 0x43, A: 1}}) || !slices.Equal(labels, []int{1, -1, 1 << 40}) || in[2].Op != 0x43 {
		t.Error("what lies behind was written")
	}
}
