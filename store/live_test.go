package store

import (
	"math"
	"testing"

	"scarf/api"
	"scarf/exec"
)

// op is an instruction with its A.
func op(o int, a ...int) api.Instr { return api.Instr{Op: o, A: append(a, 0)[0]} }

func get(n int) api.Instr   { return op(0x20, n) }
func i32(n int) api.Instr   { return op(0x41, n) }
func save(at int) api.Instr { return api.Instr{Op: 0x36, A: at, B: 2} }

// functype makes one of letters: i is I32, l is I64.
func functype(p, r string) api.FuncType {
	types := func(s string) []int {
		var l []int
		for _, c := range s {
			l = append(l, map[rune]int{'i': api.I32, 'l': api.I64}[c])
		}
		return l
	}
	return api.FuncType{P: types(p), R: types(r)}
}

// The addresses of the externs of a store that play makes: a function of the host's, a memory of one page, a global, a function that gives room, and one of another kind.
var (
	asker   = api.Extern{Kind: api.KindFunc, Addr: 0}
	giving  = api.Extern{Kind: api.KindFunc, Addr: 1}
	memory  = api.Extern{Kind: api.KindMem, Addr: 0}
	counter = api.Extern{Kind: api.KindGlobal, Addr: 0}
)

// play makes a store with a module whose function has this code, five locals, and a global that is 1000 at first.
func play(l ...api.Instr) *exec.Store {
	s := exec.New()
	give := functype("iiii", "i")
	x, e := s.Host(give, 5)
	m := api.Module{
		Types:   []api.FuncType{give},
		Imports: []api.Import{{Mod: "a", Name: "b"}},
		Funcs:   []int{0},
		Mems:    []api.Limits{{Min: 1, Max: -1}},
		Globals: []api.Global{{T: api.I32, Mut: true, Init: i32(1000)}},
		Codes:   []api.Code{{Locals: []int{api.I32}, L: l}},
	}
	_, f, trap := s.Add(m, x)
	if e != api.OK || f != api.OK || trap != api.NoTrap {
		panic("no such module")
	}
	s.Mem(memory).Fill(0, blank, api.Page)
	return s
}

// bump gives room behind what it gave last.
var bump = []api.Instr{
	op(0x23), get(2), op(0x6A), i32(1), op(0x6B), i32(0), get(2), op(0x6B), op(0x71), op(0x22, 4),
	get(3), op(0x6A), op(0x24), get(4),
}

// alive makes a heap of a store that play makes.
func alive(t *testing.T, s *exec.Store, enc, fuel int) *Heap {
	t.Helper()
	h, e := Live(s, memory, giving, enc, fuel)
	if h == nil || e != api.OK {
		t.Fatal(h, e)
	}
	return h
}

func TestLive(t *testing.T) {
	s := play(bump...)
	types := []api.FuncType{functype("iii", "i"), functype("iiiii", "i"), functype("iiii", ""), functype("iiii", "ii"), functype("iiii", "l"), functype("iiil", "i"), functype("liii", "i"), functype("", "i"), {}}
	var others []api.Extern
	for _, x := range types {
		f, e := s.Host(x, 1)
		if e != api.OK {
			t.Fatal(e)
		}
		others = append(others, f)
	}
	noFuncs := append(others, memory, counter, api.Extern{Kind: api.KindFunc, Addr: -1}, api.Extern{Kind: api.KindFunc, Addr: 2 + len(types)}, api.Extern{Kind: 4, Addr: 1}, api.Extern{Kind: -1}, api.Extern{Kind: api.KindMem, Addr: 1})
	noMems := []api.Extern{giving, counter, {Kind: api.KindMem, Addr: 1}, {Kind: api.KindMem, Addr: -1}, {Kind: api.KindTable}, {Kind: 4}, {Kind: api.KindMem, Addr: math.MaxInt64}}
	refused := func(s *exec.Store, m, give api.Extern, enc, fuel int) {
		t.Helper()
		if h, e := Live(s, m, give, enc, fuel); h != nil || e != api.ErrArg {
			t.Error(m, give, enc, fuel, h, e)
		}
	}
	for _, enc := range encodings {
		for _, x := range noFuncs {
			refused(s, memory, x, enc, 1)
		}
		for _, x := range noMems {
			refused(s, x, giving, enc, 1)
		}
		for _, fuel := range []int{-1, -2, math.MinInt64} {
			refused(s, memory, giving, enc, fuel)
		}
		refused(nil, memory, giving, enc, 1)
		refused(exec.New(), memory, giving, enc, 1)
		for _, fuel := range []int{0, 1, 1000, math.MaxInt64} {
			for _, give := range []api.Extern{asker, giving} {
				h, e := Live(s, memory, give, enc, fuel)
				if h == nil || e != api.OK || h.Fuel() != fuel || len(h.Wants()) != 0 {
					t.Error(enc, fuel, h, e)
				}
			}
		}
	}
	for _, enc := range noEncodings {
		refused(s, memory, giving, enc, 1)
	}
}

// Room is where the function says; each call takes fuel.
func TestLiveGive(t *testing.T) {
	s := play(bump...)
	h := alive(t, s, 0, 6)
	gave(t, h, 1, 3, 1000, api.NoTrap)
	if h.Fuel() != 5 {
		t.Error(h.Fuel())
	}
	gave(t, h, 8, 5, 1008, api.NoTrap)
	gave(t, h, 2, 0, 1014, api.NoTrap)
	gave(t, h, 1, 65536, 0, api.TrapBounds)
	if h.Fuel() != 2 {
		t.Error(h.Fuel())
	}
	want := []api.Want{{Align: 1, Size: 3, At: 1000}, {Align: 8, Size: 5, At: 1008}, {Align: 2, At: 1014}, {Align: 1, Size: 65536, At: 1014}}
	wanted(t, h, want...)
	// What may not be asked for is not asked for.
	for _, x := range [][2]int{{0, 1}, {-1, 1}, {1, -1}, {1, 1 << 32}, {1 << 32, 1}, {math.MaxInt64, 1}} {
		gave(t, h, x[0], x[1], 0, api.TrapHost)
	}
	if n, _ := s.Global(counter); n != 1014+65536 || h.Fuel() != 2 {
		t.Error(n, h.Fuel())
	}
	wanted(t, h, want...)
	// An alignment, a size may be of all 32 bits.
	gave(t, h, 1, 1<<32-1, 0, api.TrapBounds)
	gave(t, h, 1<<32-1, 0, 0, api.TrapAlign)
	if h.Fuel() != 0 || len(h.Wants()) != 6 {
		t.Error(h.Fuel(), h.Wants())
	}
	for range 3 {
		gave(t, h, 1, 1, 0, api.TrapFuel)
	}
	if h.Fuel() != 0 || len(h.Wants()) != 6 {
		t.Error(h.Fuel(), h.Wants())
	}
}

// The function is called with 0, 0, the alignment and the size; the host may call it as well.
func TestLiveArgs(t *testing.T) {
	s := play(i32(0), get(0), save(0), i32(0), get(1), save(4), i32(0), get(2), save(8), i32(0), get(3), save(12), i32(64))
	h := alive(t, s, 2, 9)
	gave(t, h, 16, 0xFF01, 64, api.NoTrap)
	if b, _ := s.Mem(memory).Read(0, 20); b != nums(0, 0, 16, 0xFF01)+"\xA5\xA5\xA5\xA5" {
		t.Errorf("% x", b)
	}
	if _, e := s.Call(giving, []int{1, 2, 3, 4}, 1); e != api.OK {
		t.Error(e)
	}
	wanted(t, h, api.Want{Align: 16, Size: 0xFF01, At: 64})
}

// The function's trap is told, with what is left of the fuel.
func TestLiveTraps(t *testing.T) {
	ask := []api.Instr{get(0), get(1), get(2), get(3), op(0x10, 0)}
	loop := api.Instr{Op: 0x03, A: api.BlockNone, L: []api.Instr{op(0x0C, 0)}}
	for _, x := range []struct {
		l          []api.Instr
		fuel, left int
		trap       api.Trap
	}{
		{[]api.Instr{op(0)}, 10, 9, api.TrapUnreachable},
		{[]api.Instr{op(0)}, 0, 0, api.TrapFuel},
		{[]api.Instr{loop, op(0)}, 10, 0, api.TrapFuel},
		{[]api.Instr{i32(1), i32(0), op(0x6E)}, 3, 2, api.TrapDivide},
		{[]api.Instr{i32(65533), i32(0), save(0), i32(0)}, 3, 2, api.TrapMemory},
		{[]api.Instr{get(0), get(1), get(2), get(3), op(0x10, 1)}, 100, 35, api.TrapDepth},
		{ask, 10, 8, api.TrapLeave},
		{ask, 2, 0, api.TrapLeave},
		{ask, 1, 0, api.TrapFuel},
	} {
		s := play(x.l...)
		h := alive(t, s, 0, x.fuel)
		gave(t, h, 1, 1, 0, x.trap)
		if h.Fuel() != x.left {
			t.Error(x.trap, h.Fuel(), x.left)
		}
		wanted(t, h)
		// So a text, a list is stopped, which is not noted at its place.
		for _, v := range []struct {
			t api.Type
			v api.Val
		}{{words, str("")}, {words, str("ab")}, {list(u8), all()}, {list(u64), all(num(1))}} {
			h := alive(t, s, 0, x.fuel)
			h.lays(t, v.t, v.v, 8, x.trap, nil)
			h = alive(t, s, 0, x.fuel)
			h.lays(t, tuple(u8, v.t), all(num(7), v.v), 8, x.trap, nil, patch{8, "\x07"})
		}
		h = alive(t, s, 0, x.fuel)
		if at, n, trap := h.Text(); at != 0 || n != 0 || trap != x.trap {
			t.Error(at, n, trap)
		}
		h = alive(t, s, 0, x.fuel)
		if at, trap := h.List(u64); at != 0 || trap != x.trap {
			t.Error(at, trap)
		}
	}
	// A function of the host's asks it.
	s := play(bump...)
	h, _ := Live(s, memory, asker, 0, 2)
	gave(t, h, 1, 1, 0, api.TrapLeave)
	gave(t, h, 1, 1, 0, api.TrapLeave)
	if h.Fuel() != 0 {
		t.Error(h.Fuel())
	}
	gave(t, h, 1, 1, 0, api.TrapFuel)
	wanted(t, h)
}

// Whether room is within is told of the memory as it is behind the call.
func TestLiveGrows(t *testing.T) {
	s := play(i32(1), op(0x40), i32(16), op(0x74))
	h := alive(t, s, 0, 20)
	gave(t, h, 8, 65536, 65536, api.NoTrap)
	gave(t, h, 8, 65537, 0, api.TrapBounds)
	h.lays(t, u8, num(9), 3*65536-1, api.NoTrap, []api.Want{{Align: 8, Size: 65536, At: 65536}, {Align: 8, Size: 65537, At: 131072}}, patch{3*65536 - 1, "\x09"})
	if at, n, trap := h.Text(runes("ab")...); at != 3*65536 || n != 2 || trap != api.NoTrap {
		t.Error(at, n, trap)
	}
	text(t, h, 3*65536, 2, api.NoTrap, 'a', 'b')
	if s.Mem(memory).Pages() != 4 {
		t.Error(s.Mem(memory).Pages())
	}
}

// What was laid ahead of the function's call is changed by it, what is laid behind is not.
func TestLiveOrder(t *testing.T) {
	// It fills the bytes below 64 with its size, and gives room at 100.
	s := play(i32(0), get(3), i32(64), api.Instr{Op: 0xFC0B}, i32(100))
	h := alive(t, s, 0, 9)
	x := tuple(u8, words, u8, list(u16), u8)
	v := all(num(1), str("abc"), num(2), all(num(3), num(4)), num(5))
	want := s.Mem(memory).Clone()
	want.Fill(0, 4, 64)
	want.Write(100, "\x03\x00\x04\x00")
	want.Write(20, nums(100, 2)+"\x05")
	if trap := h.Store(x, v, 4); trap != api.NoTrap {
		t.Error(trap)
	}
	h.is(t, want, []api.Want{{Align: 1, Size: 3, At: 100}, {Align: 2, Size: 4, At: 100}})
	// A list's values are laid one by one, a variant's case ahead of what is in it.
	s = play(i32(0), get(3), i32(200), api.Instr{Op: 0xFC0B}, op(0x23), op(0x22, 4), i32(16), op(0x6A), op(0x24), get(4))
	h = alive(t, s, 0, 9)
	if trap := h.Store(list(option(words)), all(sum(1, str("x")), sum(0)), 8); trap != api.NoTrap {
		t.Error(trap)
	}
	if b, _ := s.Mem(memory).Read(1000, 18); b != "\x01\xA5\xA5\xA5"+nums(1016, 1)+"\x00\xA5\xA5\xA5x\xA5" {
		t.Errorf("% x", b)
	}
	if b, _ := s.Mem(memory).Read(0, 20); b != "\x01\x01\x01\x01\x01\x01\x01\x01"+nums(1000, 2)+"\x01\x01\x01\x01" {
		t.Errorf("% x", b)
	}
	h = alive(t, s, 0, 9)
	if trap := h.Store(option(words), sum(1, str("abc")), 8); trap != api.NoTrap {
		t.Error(trap)
	}
	if b, _ := s.Mem(memory).Read(4, 16); b != "\x03\x03\x03\x03\x03\x03\x03\x03"+nums(1032, 3) {
		t.Errorf("% x", b)
	}
}
