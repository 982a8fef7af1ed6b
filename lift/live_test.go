package lift

import (
	"cmp"
	"slices"
	"testing"

	"scarf/api"
	"scarf/ctype"
	"scarf/exec"
	"scarf/store"
	"scarf/value"
)

// op is an instruction with its A.
func op(o int, a ...int) api.Instr { return api.Instr{Op: o, A: append(a, 0)[0]} }

func get(n int) api.Instr { return op(0x20, n) }
func i32(n int) api.Instr { return op(0x41, n) }

// The externs of a store that play makes: a function of the host's, one that gives room, and a memory of a page.
var (
	asker  = api.Extern{Kind: api.KindFunc, Addr: 0}
	giving = api.Extern{Kind: api.KindFunc, Addr: 1}
	memory = api.Extern{Kind: api.KindMem, Addr: 0}
)

// play makes a store with a module whose function has this code, five locals, and a global that is 1000 at first.
func play(l ...api.Instr) *exec.Store {
	s := exec.New()
	give := api.FuncType{P: times(4, api.I32), R: []int{api.I32}}
	x, e := s.Host(give, 5)
	m := api.Module{
		Types:   []api.FuncType{give},
		Imports: []api.Import{{Mod: "a", Name: "b"}},
		Funcs:   []int{0},
		Mems:    []api.Limits{{Min: 1, Max: -1}},
		Globals: []api.Global{{T: api.I32, Mut: true, Init: i32(1000)}},
		Codes:   []api.Code{{Locals: []int{api.I32}, L: l}},
	}
	_, f, trap := s.Add(m, x)
	if e != api.OK || f != api.OK || trap != api.NoTrap {
		panic("no such module")
	}
	s.Mem(memory).Fill(0, blank, api.Page)
	return s
}

// bump gives room behind what it gave last.
var bump = []api.Instr{
	op(0x23), get(2), op(0x6A), i32(1), op(0x6B), i32(0), get(2), op(0x6B), op(0x71), op(0x22, 4),
	get(3), op(0x6A), op(0x24), get(4),
}

// alive makes a heap of a store that play makes.
func alive(s *exec.Store, enc, fuel int) desk {
	h, e := store.Live(s, memory, giving, enc, fuel)
	if e != api.OK {
		panic(e)
	}
	return desk{h, s.Mem(memory)}
}

// Room is given by a core function, with fuel.
func TestLive(t *testing.T) {
	h := alive(play(bump...), 0, 4)
	h.lowers(t, []api.Type{words, u64, list(u32)}, []api.Val{str("abc"), val(-1), all(val(7))}, []int{1000, 3, -1, 1004, 1}, 0,
		[]api.Want{{Align: 1, Size: 3, At: 1000}, {Align: 4, Size: 4, At: 1004}}, patch{1000, "abc"}, patch{1004, nums(7)})
	if h.Fuel() != 2 {
		t.Error(h.Fuel())
	}
	s := takes(append(times(16, u8), words)...)
	l := append(times(16, val(9)), str("de"))
	core, trap := DownArgs(h.Heap, s, l...)
	gotCore(t, core, trap, []int{1008}, 0)
	back, trap := UpArgs(h.Heap, s, core...)
	got(t, back, trap, l, 0)
	wants := []api.Want{{Align: 1, Size: 3, At: 1000}, {Align: 4, Size: 4, At: 1004}, {Align: 4, Size: 24, At: 1008}, {Align: 1, Size: 2, At: 1032}}
	if w := h.Wants(); !slices.Equal(w, wants) || h.Fuel() != 0 {
		t.Error(w, h.Fuel())
	}
	// There is no fuel more.
	core, trap = DownArgs(h.Heap, s, l...)
	gotCore(t, core, trap, nil, api.TrapFuel)
	core, trap = Lower(h.Heap, []api.Val{val(1), str("")}, u8, words)
	gotCore(t, core, trap, nil, api.TrapFuel)
	core, trap = DownResult(h.Heap, gives(tupled(u8, words)), all(val(1), str("")), 0)
	gotCore(t, core, trap, nil, api.TrapFuel)
	if b, _ := h.m.Read(0, 5); b != "\x01\xA5\xA5\xA5\xA5" {
		t.Errorf("% x", b)
	}
	// Without room it is not needed.
	core, trap = Lower(h.Heap, []api.Val{val(1), sum(0)}, u8, option(words))
	gotCore(t, core, trap, []int{1, 0, 0, 0}, 0)
	core, trap = DownResult(h.Heap, gives(option(words)), sum(0), 16)
	gotCore(t, core, trap, nil, 0)
}

// The traps of the function that gives room are those of what is lowered.
func TestLiveTraps(t *testing.T) {
	loop := api.Instr{Op: 0x03, A: api.BlockNone, L: []api.Instr{op(0x0C, 0)}}
	for _, x := range []struct {
		l    []api.Instr
		trap api.Trap
	}{
		{[]api.Instr{op(0)}, api.TrapUnreachable}, {[]api.Instr{loop, op(0)}, api.TrapFuel}, {[]api.Instr{i32(1), i32(0), op(0x6E)}, api.TrapDivide}, {[]api.Instr{get(0), get(1), get(2), get(3), op(0x10, 0)}, api.TrapLeave},
		{[]api.Instr{i32(65537)}, api.TrapBounds}, {[]api.Instr{i32(-1)}, api.TrapBounds},
	} {
		h := alive(play(x.l...), 0, 100)
		core, trap := Lower(h.Heap, []api.Val{val(1), str("ab"), str("c")}, u8, words, words)
		gotCore(t, core, trap, nil, x.trap)
		h = alive(play(x.l...), 0, 100)
		core, trap = Lower(h.Heap, []api.Val{sum(1, all(val(1)))}, option(list(u8)))
		gotCore(t, core, trap, nil, x.trap)
		h = alive(play(x.l...), 0, 100)
		core, trap = DownArgs(h.Heap, takes(u8, words), val(1), str("ab"))
		gotCore(t, core, trap, nil, x.trap)
		h = alive(play(x.l...), 0, 100)
		core, trap = DownArgs(h.Heap, takes(times(17, u8)...), times(17, val(1))...)
		gotCore(t, core, trap, nil, x.trap)
		h = alive(play(x.l...), 0, 100)
		core, trap = DownResult(h.Heap, gives(words), str("ab"), 0)
		gotCore(t, core, trap, nil, x.trap)
		if bytesOf(h.m) != bytesOf(page()) {
			t.Error("laid")
		}
	}
	// One of the host's.
	s := play(bump...)
	h, _ := store.Live(s, memory, asker, 0, 9)
	core, trap := Lower(h, []api.Val{str("")}, words)
	gotCore(t, core, trap, nil, api.TrapLeave)
}

// A memory that grows while room is given: what is laid, and lifted, lies in it as it is then.
func TestLiveGrows(t *testing.T) {
	h := alive(play(i32(1), op(0x40), i32(16), op(0x74)), 0, 20)
	core, trap := Lower(h.Heap, []api.Val{str("ab"), str("c")}, words, words)
	gotCore(t, core, trap, []int{65536, 2, 131072, 1}, 0)
	l, trap := Lift(h.Heap, core, words, words)
	got(t, l, trap, []api.Val{str("ab"), str("c")}, 0)
	s := takes(times(17, u64)...)
	core, trap = DownArgs(h.Heap, s, times(17, val(-2))...)
	gotCore(t, core, trap, []int{3 * 65536}, 0)
	l, trap = UpArgs(h.Heap, s, core...)
	got(t, l, trap, times(17, val(-2)), 0)
}

// fits looks whether core values are those of core types.
func fits(t *testing.T, core, types []int) {
	t.Helper()
	if len(core) != len(types) {
		t.Fatal(len(core), len(types))
	}
	for i, n := range core {
		if types[i] == api.I32 && n != n&0xFFFFFFFF {
			t.Fatal(i, n)
		}
	}
}

// What is lowered, with all room apart, is lifted as it was (18.5); nothing but the room is changed.
func TestRoundTrip(t *testing.T) {
	done, wide, long := 0, 0, 0
	for seed := range 3000 {
		m := made(seed)
		s := m.sig()
		if ctype.CheckSig(s) != api.OK || Wide(s) && ctype.Check(tupled(s.T...)) != api.OK || ctype.Size(s.R) > 800 {
			continue
		}
		l := m.vals(s.T)
		v := api.Val{}
		if s.R.Kind != 0 {
			v = m.val(s.R)
		}
		if parts(all(l...)) > 600 || parts(v) > 600 {
			continue
		}
		h := alive(play(bump...), m.Intn(3), 1<<20)
		was := h.m.Clone()
		var core [2][]int
		var traps [3]api.Trap
		core[0], traps[0] = Lower(h.Heap, l, s.T...)
		core[1], traps[1] = DownArgs(h.Heap, s, l...)
		gave, trap := DownResult(h.Heap, s, v, 16)
		traps[2] = trap
		if traps[2] == api.TrapBounds || traps[1] == api.TrapBounds || traps[0] == api.TrapBounds {
			continue // all of the page was given
		}
		if traps != [3]api.Trap{} {
			if !slices.Contains(traps[:], api.TrapLength) {
				t.Fatal(short(s), traps)
			}
			continue
		}
		done++
		back, trap := Lift(h.Heap, core[0], s.T...)
		got(t, back, trap, l, 0)
		if Wide(s) {
			wide++
		}
		back, trap = UpArgs(h.Heap, s, core[1]...)
		got(t, back, trap, l, 0)
		if Long(s) {
			long++
			gave = []int{16}
		}
		w, trap := UpResult(h.Heap, s, gave...)
		got(t, []api.Val{w}, trap, []api.Val{v}, 0)
		if trap == api.NoTrap && s.R.Kind != 0 && value.Check(s.R, w) != api.OK {
			t.Error("no value", short(w))
		}
		fits(t, core[0], ctype.Args(s))
		f, _ := ctype.Core(s, false)
		fits(t, core[1], f.P)
		fits(t, gave, f.R)
		room := h.Wants()
		if Long(s) {
			room = append(room, api.Want{At: 16, Size: ctype.Size(s.R)})
		}
		slices.SortFunc(room, func(a, b api.Want) int { return cmp.Or(a.At-b.At, a.Size-b.Size) })
		now, before, end := bytesOf(h.m), bytesOf(was), 0
		for _, r := range append(room, api.Want{At: api.Page}) {
			if r.At < end || now[end:r.At] != before[end:r.At] {
				t.Fatal("changed beside", room)
			}
			end = r.At + r.Size
		}
	}
	if done < 1500 || wide < 200 || long < 300 {
		t.Error(done, wide, long)
	}
}
