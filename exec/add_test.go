package exec

import (
	"math"
	"slices"
	"testing"

	"scarf/api"
)

// 9.2: a module that may not be run, whatever it imports, and is handed.
func TestMayNotBeRun(t *testing.T) {
	s := New()
	host(t, s, ">", 0)
	bad := []api.Module{
		{Start: 1},
		module(fun(">i")),
		module(fun(">", get(0))),
		module(fun("i>i", get(0), get(0))),
		{Types: []api.FuncType{{}}, Funcs: []int{0}},
		{Codes: []api.Code{{}}},
		{Mems: []api.Limits{lim(17, -1)}},
		{Tables: []api.Limits{lim(1, 0)}},
		{Imports: []api.Import{{T: 1}}, Types: []api.FuncType{{}}},
		{Imports: []api.Import{{Kind: 4}}},
		{Imports: []api.Import{{Kind: -1}}},
		{Imports: []api.Import{{Kind: 2, Lim: lim(0, 17)}}},
		{Globals: []api.Global{{T: 0x7F, Init: i64(0)}}},
		{Globals: []api.Global{{T: 0x7F, Init: i32(1)}, {T: 0x7F, Init: op(0x23)}}},
		{Exports: []api.Export{{}}},
		{Elems: []api.Elem{{Off: i32(0)}}},
		{Datas: []api.Data{{Off: i32(0)}}},
		{Types: []api.FuncType{{P: []int{0x7D}}}},
	}
	for _, m := range bad {
		refused(t, s, api.ErrArg, m)
		refused(t, s, api.ErrArg, m, f(0))
		refused(t, s, api.ErrArg, m, f(9), f(9))
	}
}

// stocked is a store with functions, tables, memories and globals of many kinds.
func stocked(t *testing.T) *Store {
	t.Helper()
	s := New()
	for i, x := range []string{">", "i>", ">i", "l>", "il>r", "li>r", "il>rr", "ilr>"} {
		host(t, s, x, i)
	}
	m := api.Module{}
	for _, l := range sizes() {
		m.Tables, m.Mems = append(m.Tables, l), append(m.Mems, l)
	}
	for i, c := range []api.Instr{i32(1), i64(2), null} {
		for _, mut := range []bool{false, true} {
			m.Globals = append(m.Globals, api.Global{T: []int{0x7F, 0x7E, 0x70}[i], Mut: mut, Init: c})
		}
	}
	added(t, s, m)
	return s
}

// sizes are limits of each two numbers up to 3, with a Max and without one.
func sizes() []api.Limits {
	var l []api.Limits
	for min := range 4 {
		l = append(l, lim(min, -1))
		for max := min; max < 4; max++ {
			l = append(l, lim(min, max))
		}
	}
	return l
}

// 9.2: a function fits just if it has just the import's type.
func TestFunctionFits(t *testing.T) {
	s := stocked(t)
	for a := range 8 {
		for b := range 8 {
			typ, _ := s.Type(f(b))
			m := api.Module{Types: []api.FuncType{{}, typ}, Imports: []api.Import{{Mod: "x", Name: "y", T: 1}}}
			if a == b {
				added(t, s, m, f(a))
			} else {
				refused(t, s, api.ErrLink, m, f(a))
			}
		}
	}
	// An instance's function, as well as the host's.
	added(t, s, module(fun("li>r", null)))
	m := sigs(api.Module{Imports: []api.Import{{T: 0}}}, "li>r")
	added(t, s, m, f(8))
	refused(t, s, api.ErrLink, sigs(api.Module{Imports: []api.Import{{T: 0}}}, "il>r"), f(8))
}

// 9.2: a table, a memory fits by what it has now, and by its Max.
func TestLimitsFit(t *testing.T) {
	s := stocked(t)
	for i, has := range sizes() {
		for _, l := range sizes() {
			ok := has.Min >= l.Min && (l.Max == -1 || has.Max != -1 && has.Max <= l.Max)
			for kind := 1; kind <= 2; kind++ {
				m, x := api.Module{Imports: []api.Import{{Kind: kind, Lim: l}}}, api.Extern{Kind: kind, Addr: i}
				if ok {
					added(t, s, m, x)
				} else {
					refused(t, s, api.ErrLink, m, x)
				}
			}
		}
	}
	// By how many there are now, not by how many there were at first.
	in := func(kind, min int) api.Module {
		return api.Module{Imports: []api.Import{{Kind: kind, Lim: lim(min, 3)}}}
	}
	m := module(fun(">", null, i32(2), op(0xFC0F), op(0x1A), i32(1), op(0x40), op(0x1A)))
	m.Imports = []api.Import{{Kind: 1, Lim: lim(1, 3)}, {Kind: 2, Lim: lim(1, 3)}}
	at := slices.Index(sizes(), lim(1, 3))
	n := added(t, s, m, tab(at), memo(at))
	now := func(kind, many int) {
		for min := range 4 {
			x := api.Extern{Kind: kind, Addr: at}
			if min <= many {
				added(t, s, in(kind, min), x)
			} else {
				refused(t, s, api.ErrLink, in(kind, min), x)
			}
		}
	}
	now(1, 1)
	now(2, 1)
	x, _ := s.Export(n, "f0")
	calls(t, s, x, 1, done(0))
	now(1, 3)
	now(2, 2)
}

// 9.2: a global fits just if it has just the type, and may be set just if the import says so.
func TestGlobalFits(t *testing.T) {
	s := stocked(t)
	for i := range 6 {
		for j := range 6 {
			m := api.Module{Imports: []api.Import{{Kind: 3, T: []int{0x7F, 0x7E, 0x70}[j/2], Mut: j%2 == 1}}}
			if i == j {
				added(t, s, m, glob(i))
			} else {
				refused(t, s, api.ErrLink, m, glob(i))
			}
		}
	}
}

// 9.2: just as many externs as there are imports, each of which there is, of its Kind.
func TestLink(t *testing.T) {
	s := stocked(t)
	ins := []api.Import{{T: 0}, {Kind: 1, Lim: lim(0, -1)}, {Kind: 2, Lim: lim(0, -1)}, {Kind: 3, T: 0x7F}}
	m := api.Module{Types: []api.FuncType{{}}, Imports: ins}
	good := []api.Extern{f(0), tab(0), memo(0), glob(0)}
	added(t, s, m, good...)
	for n := range good {
		refused(t, s, api.ErrLink, m, good[:n]...)
	}
	refused(t, s, api.ErrLink, m, append(slices.Clone(good), f(0))...)
	refused(t, s, api.ErrLink, api.Module{}, f(0))
	refused(t, s, api.ErrLink, api.Module{}, api.Extern{Kind: -1})
	many := count(s)
	for i := range good {
		for kind := -1; kind < 6; kind++ {
			for _, addr := range []int{-1, 0, many[i] - 1, many[i], many[i] + 1, 99, math.MaxInt, math.MinInt, 1 << 32} {
				x := slices.Clone(good)
				x[i] = api.Extern{Kind: kind, Addr: addr}
				if kind == i && addr == 0 {
					added(t, s, m, x...)
				} else if kind != i || addr != many[i]-1 {
					refused(t, s, api.ErrLink, m, x...)
				}
			}
		}
	}
	// Each one by itself: an extern may stand for several, not for those of another one's place.
	two := api.Module{Types: []api.FuncType{{}, functype("i>")}, Imports: []api.Import{{T: 0}, {T: 1}, {T: 0}}}
	added(t, s, two, f(0), f(1), f(0))
	refused(t, s, api.ErrLink, two, f(0), f(0), f(0))
	refused(t, s, api.ErrLink, two, f(1), f(0), f(0))
	refused(t, s, api.ErrLink, two, f(0), f(1), f(1))
}

// 9.2: numbers of instances, and addresses of what they have.
func TestAddresses(t *testing.T) {
	s := New()
	host(t, s, ">", 3)
	a := module(fun("i>i", get(0)), fun(">l", i64(7)))
	a.Tables, a.Mems = []api.Limits{lim(1, -1), lim(2, 5)}, []api.Limits{lim(0, 1), lim(1, 1), lim(2, -1)}
	a.Globals = []api.Global{{T: 0x7F, Init: i32(11)}}
	for kind, many := range []int{0, 2, 3, 1} {
		for i := range many {
			a.Exports = append(a.Exports, api.Export{Name: string("ftmg"[kind]) + string("abc"[i]), Kind: kind, I: i})
		}
	}
	b := a
	b.Imports = []api.Import{{T: 1}, {Kind: 1, Lim: lim(2, -1)}, {Kind: 2, Lim: lim(2, -1)}, {Kind: 3, T: 0x7F}, {T: 0}}
	b.Exports = slices.Concat(a.Exports, []api.Export{{Name: "f2", I: 2}, {Name: "f3", I: 3}, {Name: "tc", Kind: 1, I: 2}, {Name: "md", Kind: 2, I: 3}, {Name: "gb", Kind: 3, I: 1}})
	if n := added(t, s, a); n != 0 {
		t.Error(n)
	}
	host(t, s, "r>", 3)
	if n := added(t, s, b, f(2), tab(1), memo(2), glob(0), f(1)); n != 1 {
		t.Error(n)
	}
	if n := added(t, s, api.Module{}); n != 2 {
		t.Error(n)
	}
	if n := count(s); n != [5]int{6, 4, 6, 2, 3} {
		t.Error(n)
	}
	exports := []map[string]api.Extern{
		{"f0": f(1), "f1": f(2), "ta": tab(0), "tb": tab(1), "ma": memo(0), "mb": memo(1), "mc": memo(2), "ga": glob(0)},
		{"f0": f(2), "f1": f(1), "f2": f(4), "f3": f(5), "ta": tab(1), "tb": tab(2), "tc": tab(3), "ma": memo(2), "mb": memo(3), "mc": memo(4), "md": memo(5), "ga": glob(0), "gb": glob(1)},
	}
	for n, l := range exports {
		for name, want := range l {
			if x, ok := s.Export(n, name); x != want || !ok {
				t.Errorf("%d %s: %v %v", n, name, x, ok)
			}
		}
	}
	for i, want := range []string{">", "i>i", ">l", "r>", "i>i", ">l"} {
		if x, _ := s.Type(f(i)); sig(x) != want {
			t.Errorf("%d: %v", i, x)
		}
	}
	for i, want := range []int{1, 2, 1, 2} {
		if x, _ := s.Table(tab(i)); !slices.Equal(x, make([]int, want)) {
			t.Errorf("%d: %v", i, x)
		}
	}
	for i, want := range [][2]int{{0, 1}, {1, 1}, {2, -1}, {0, 1}, {1, 1}, {2, -1}} {
		x := s.Mem(memo(i))
		if x.Pages() != want[0] || x.Most() != want[1] {
			t.Errorf("%d: %d %d", i, x.Pages(), x.Most())
		}
		if text, _ := x.Read(0, want[0]*65536); text != string(make([]byte, want[0]*65536)) {
			t.Errorf("%d: not all zero", i)
		}
	}
	calls(t, s, f(4), 1, done(0, 9), 9)
	calls(t, s, f(5), 1, done(0, 7))
}

// 9.2: Start names an imported function, or an own one; nothing is started.
func TestStarts(t *testing.T) {
	m := module(fun(">", op(0)), fun(">", i32(9), op(0x24)))
	m.Imports = []api.Import{{T: 0}}
	m.Globals = []api.Global{{T: 0x7F, Mut: true, Init: i32(4)}}
	m.Exports = nil
	for start, want := range []api.Extern{{}, f(1), f(2), f(3)} {
		m.Start = start
		s := New()
		host(t, s, "i>", 1)
		host(t, s, ">", 2)
		n := added(t, s, m, f(1))
		if x, ok := s.Start(n); x != want || ok != (start > 0) {
			t.Error(start, x, ok)
		}
		if x, _ := s.Global(glob(0)); x != 4 {
			t.Error(start, x)
		}
	}
}

// 9.2: what globals are at first, one behind the other.
func TestConstants(t *testing.T) {
	s := New()
	host(t, s, ">", 0)
	first := module(fun("i>"), fun(">"))
	first.Globals = []api.Global{{T: 0x7F, Init: i32(-2)}, {T: 0x7E, Init: i64(math.MinInt)}, {T: 0x70, Init: op(0xD2, 1)}, {T: 0x70, Init: null}, {T: 0x7F, Mut: true, Init: i32(3)}}
	added(t, s, first)
	m := module(fun("l>"))
	m.Imports = []api.Import{{Kind: 3, T: 0x7E}, {Kind: 3, T: 0x70}, {T: 0}, {Kind: 3, T: 0x7F, Mut: true}, {Kind: 3, T: 0x7F}, {Kind: 3, T: 0x70}}
	m = sigs(m, ">")
	m.Imports[2].T = 1
	consts := []struct {
		t    int
		c    api.Instr
		want int
	}{
		{0x7F, i32(0), 0}, {0x7F, i32(1), 1}, {0x7F, i32(-1), 1<<32 - 1}, {0x7F, i32(math.MinInt32), 1 << 31}, {0x7F, i32(math.MaxInt32), 1<<31 - 1}, {0x7F, op(0x23, 3), 1<<32 - 2},
		{0x7E, i64(0), 0}, {0x7E, i64(-1), -1}, {0x7E, i64(math.MaxInt), math.MaxInt}, {0x7E, i64(math.MinInt), math.MinInt}, {0x7E, i64(1 << 32), 1 << 32}, {0x7E, op(0x23), math.MinInt},
		{0x70, null, 0}, {0x70, op(0xD2), 1}, {0x70, op(0xD2, 1), 4}, {0x70, op(0x23, 1), 3}, {0x70, op(0x23, 4), 0},
	}
	for i, x := range consts {
		m.Globals = append(m.Globals, api.Global{T: x.t, Mut: i%2 == 0, Init: x.c})
	}
	added(t, s, m, glob(1), glob(2), f(0), glob(4), glob(0), glob(3))
	for i, x := range consts {
		if n, ok := s.Global(glob(5 + i)); n != x.want || !ok {
			t.Errorf("%x %+v: %d %v", x.t, x.c, n, ok)
		}
	}
}

// filler is a module with tables of 4 and 3 places, and memories of a page and of none.
func filler() api.Module {
	m := module(fun(">"), fun("i>"))
	m.Tables, m.Mems = []api.Limits{lim(4, -1), lim(3, 3)}, []api.Limits{lim(1, -1), lim(0, 3)}
	return m
}

// asFilled adds a module, and asks which trap there is, and what its tables and a memory's first bytes, and its last ones, are then.
func asFilled(t *testing.T, m api.Module, trap api.Trap, one, two []int, first, last string) {
	t.Helper()
	s := New()
	host(t, s, ">", 0)
	added(t, s, api.Module{})
	n, e, got := s.Add(m)
	if n != 1 || e != api.OK || got != trap {
		t.Errorf("%d %d %d, want %d", n, e, got, trap)
	}
	for i, want := range [][]int{one, two} {
		if l, _ := s.Table(tab(i)); !slices.Equal(l, want) {
			t.Errorf("%d: %v, want %v", i, l, want)
		}
	}
	if s, _ := s.Mem(memo(0)).Read(0, 4); s != first {
		t.Errorf("%q, want %q", s, first)
	}
	if s, _ := s.Mem(memo(0)).Read(65532, 4); s != last {
		t.Errorf("%q, want %q", s, last)
	}
	// The instance is there, with its functions, trap or not.
	if x, ok := s.Export(n, "f1"); x != f(2) || !ok {
		t.Error(x, ok)
	}
	calls(t, s, f(1), 1, done(0))
	if n := added(t, s, api.Module{}); n != 2 {
		t.Error(n)
	}
}

// 9.2: tables and memories are filled, one thing behind the other, up to a trap.
func TestFilled(t *testing.T) {
	zero4, zero3, nil4 := make([]int, 4), make([]int, 3), "\x00\x00\x00\x00"
	el := func(table, off int, f ...int) api.Elem { return api.Elem{Table: table, Off: i32(off), F: f} }
	da := func(mem, off int, b string) api.Data { return api.Data{Mem: mem, Off: i32(off), B: b} }
	for _, x := range []struct {
		elems       []api.Elem
		datas       []api.Data
		trap        api.Trap
		one, two    []int
		first, last string
	}{
		{nil, nil, 0, zero4, zero3, nil4, nil4},
		{[]api.Elem{el(0, 0, 0, 1, 1, 0), el(1, 1, 1, 0)}, []api.Data{da(0, 0, "ab"), da(0, 65534, "yz")}, 0, []int{2, 3, 3, 2}, []int{0, 3, 2}, "ab\x00\x00", "\x00\x00yz"},
		{[]api.Elem{el(0, 3, 1), el(0, 4), el(1, 3), el(1, 2, 0)}, []api.Data{da(0, 65535, "z"), da(0, 65536, ""), da(1, 0, "")}, 0, []int{0, 0, 0, 3}, []int{0, 0, 2}, nil4, "\x00\x00\x00z"},
		{[]api.Elem{el(0, 1, 0, 0), el(0, 2, 1, 1)}, []api.Data{da(0, 0, "abc"), da(0, 1, "X")}, 0, []int{0, 2, 3, 3}, zero3, "aXc\x00", nil4},
		// One beyond, in each way: nothing of it is put, nor of what is behind it; what is ahead of it stays.
		{[]api.Elem{el(0, 0, 1), el(0, 1, 0, 0, 0, 0), el(1, 0, 0)}, []api.Data{da(0, 0, "a")}, api.TrapTable, []int{3, 0, 0, 0}, zero3, nil4, nil4},
		{[]api.Elem{el(1, 2, 1), el(1, 3, 0), el(1, 0, 0)}, []api.Data{da(0, 0, "a")}, api.TrapTable, zero4, []int{0, 0, 3}, nil4, nil4},
		{[]api.Elem{el(0, 5)}, []api.Data{da(0, 0, "a")}, api.TrapTable, zero4, zero3, nil4, nil4},
		{[]api.Elem{el(0, -1)}, nil, api.TrapTable, zero4, zero3, nil4, nil4},
		{[]api.Elem{el(0, -1, 0)}, nil, api.TrapTable, zero4, zero3, nil4, nil4},
		{[]api.Elem{el(0, math.MinInt32, 0)}, nil, api.TrapTable, zero4, zero3, nil4, nil4},
		{[]api.Elem{el(0, 0, 0, 0, 0, 0, 0)}, nil, api.TrapTable, zero4, zero3, nil4, nil4},
		{[]api.Elem{el(0, 0, 1)}, []api.Data{da(0, 0, "a"), da(0, 65535, "yz"), da(0, 1, "b")}, api.TrapMemory, []int{3, 0, 0, 0}, zero3, "a\x00\x00\x00", nil4},
		{nil, []api.Data{da(0, 65535, "z"), da(0, 65536, "z"), da(0, 1, "b")}, api.TrapMemory, zero4, zero3, nil4, "\x00\x00\x00z"},
		{nil, []api.Data{da(0, 65537, ""), da(0, 1, "b")}, api.TrapMemory, zero4, zero3, nil4, nil4},
		{nil, []api.Data{da(1, 0, "z"), da(0, 1, "b")}, api.TrapMemory, zero4, zero3, nil4, nil4},
		{nil, []api.Data{da(1, 1, ""), da(0, 1, "b")}, api.TrapMemory, zero4, zero3, nil4, nil4},
		{nil, []api.Data{da(0, -1, "b")}, api.TrapMemory, zero4, zero3, nil4, nil4},
		{nil, []api.Data{da(0, -1, "")}, api.TrapMemory, zero4, zero3, nil4, nil4},
		{[]api.Elem{el(0, 5)}, []api.Data{da(0, -1, "")}, api.TrapTable, zero4, zero3, nil4, nil4},
	} {
		m := filler()
		m.Elems, m.Datas = x.elems, x.datas
		asFilled(t, m, x.trap, x.one, x.two, x.first, x.last)
	}
}

// 9.2: places that imported globals tell; what is imported is filled, and stays filled behind a trap.
func TestFilledImports(t *testing.T) {
	s := New()
	first := filler()
	first.Globals = []api.Global{{T: 0x7F, Init: i32(2)}, {T: 0x7F, Init: i32(-1)}}
	added(t, s, first)
	m := module(fun(">"))
	m = sigs(m, "i>")
	m.Imports = []api.Import{{T: 1}, {Kind: 1, Lim: lim(1, 3)}, {Kind: 2, Lim: lim(1, -1)}, {Kind: 3, T: 0x7F}, {Kind: 3, T: 0x7F}}
	m.Elems = []api.Elem{{Off: op(0x23), F: []int{1}}, {Off: i32(0), F: []int{0}}}
	m.Datas = []api.Data{{Off: op(0x23), B: "ab"}}
	link := []api.Extern{f(1), tab(1), memo(0), glob(0), glob(1)}
	if n := added(t, s, m, link...); n != 1 {
		t.Error(n)
	}
	if l, _ := s.Table(tab(1)); !slices.Equal(l, []int{2, 0, 3}) {
		t.Error(l)
	}
	if b, _ := s.Mem(memo(0)).Read(0, 5); b != "\x00\x00ab\x00" {
		t.Errorf("%q", b)
	}
	m.Elems[0].F = []int{0}
	m.Datas = []api.Data{{Off: op(0x23), B: "X"}, {Off: op(0x23, 1), B: "Y"}, {Off: i32(0), B: "Z"}}
	if n, e, trap := s.Add(m, link...); n != 2 || e != api.OK || trap != api.TrapMemory {
		t.Error(n, e, trap)
	}
	if l, _ := s.Table(tab(1)); !slices.Equal(l, []int{2, 0, 2}) {
		t.Error(l)
	}
	if b, _ := s.Mem(memo(0)).Read(0, 5); b != "\x00\x00Xb\x00" {
		t.Errorf("%q", b)
	}
	// The function of the instance that was trapped is there.
	calls(t, s, f(3), 1, done(0))
}

// 9.2: modules of many things.
func TestMany(t *testing.T) {
	s := New()
	m := api.Module{Types: []api.FuncType{functype(">i")}}
	for i := range 1000 {
		m.Funcs = append(m.Funcs, 0)
		m.Codes = append(m.Codes, api.Code{L: code(i32(i))})
		m.Tables = append(m.Tables, lim(1, 1))
		m.Globals = append(m.Globals, api.Global{T: 0x70, Init: op(0xD2, i)})
		m.Elems = append(m.Elems, api.Elem{Table: i, Off: i32(0), F: []int{999 - i}})
	}
	host(t, s, ">", 0)
	added(t, s, m)
	for _, i := range []int{0, 1, 500, 998, 999} {
		if l, _ := s.Table(tab(i)); !slices.Equal(l, []int{1001 - i}) {
			t.Error(i, l)
		}
		if g, _ := s.Global(glob(i)); g != i+2 {
			t.Error(i, g)
		}
		calls(t, s, f(i+1), 1, done(0, i))
	}
	if n := count(s); n != [5]int{1001, 1000, 0, 1000, 1} {
		t.Error(n)
	}
}
