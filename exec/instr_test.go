package exec

import (
	"math"
	"slices"
	"testing"

	"scarf/api"
)

// try is a function's type, its code, what it is called with, and how the run stands then, with a fuel of 5.
type try struct {
	sig  string
	l    []api.Instr
	args []int
	want api.Status
}

// tries calls each function by itself, in a store of its own.
func tries(t *testing.T, l []try) {
	t.Helper()
	for i, x := range l {
		s := played(t, x.sig, x.l)
		r := called(t, s, f(1), 5, x.args...)
		if got := r.Status(); !alikeStatus(got, x.want) {
			t.Errorf("%d: %s %+v %v: %+v, want %+v", i, x.sig, x.l, x.args, got, x.want)
		}
	}
}

// played is a store with a function, the host's (i>i), which is 0, and others: 2 is i>i (it adds 1), 3 is l>, 4 is i>i (it doubles); each is of the type ahead of its own number, and further types are i>i (4), >ll (5), i>l (6), l>l (7). There are tables of 4 places (the functions 2, 3, 0, none) and 3 (4, none, 2), and memories of 1 page and 2. Addresses and indices are the same.
func played(t *testing.T, sig string, l []api.Instr) *Store {
	t.Helper()
	s := New()
	host(t, s, "i>i", 9)
	m := module(fun(sig, l...), fun("i>i", get(0), i32(1), op(0x6A)), fun("l>"), fun("i>i", get(0), get(0), op(0x6A)))
	m = sigs(m, "i>i", ">ll", "i>l", "l>l")
	m.Imports = []api.Import{{T: 4}}
	m.Tables, m.Mems = []api.Limits{lim(4, -1), lim(3, 5)}, []api.Limits{lim(1, -1), lim(2, 4)}
	m.Globals = []api.Global{{T: 0x7F, Mut: true, Init: i32(-7)}, {T: 0x7E, Mut: true, Init: i64(-8)}, {T: 0x70, Mut: true, Init: op(0xD2, 2)}, {T: 0x7F, Init: i32(3)}}
	m.Elems = []api.Elem{{Off: i32(0), F: []int{2, 3, 0}}, {Table: 1, Off: i32(0), F: []int{4}}, {Table: 1, Off: i32(2), F: []int{2}}}
	m.Datas = []api.Data{{Off: i32(0), B: "abcdefgh"}, {Off: i32(65528), B: "ijklmnop"}, {Mem: 1, Off: i32(0), B: "ABCDEFGH"}, {Mem: 1, Off: i32(131064), B: "STUVWXYZ"}}
	added(t, s, m, f(0))
	return s
}

// 9.4: instructions that neither reckon nor reach into memories or tables.
func TestPlain(t *testing.T) {
	tries(t, []try{
		{">", code(op(0)), nil, stopped(4, api.TrapUnreachable)},
		{">", code(op(1)), nil, done(4)},
		{">ll", code(i64(1), i64(2), i64(3), op(0x1A)), nil, done(4, 1, 2)},
		// Select, SelectT: with 1, with 0, with all else.
		{"i>i", code(i32(5), i32(6), get(0), op(0x1B)), []int{1}, done(4, 5)},
		{"i>i", code(i32(5), i32(6), get(0), op(0x1B)), []int{0}, done(4, 6)},
		{"i>i", code(i32(5), i32(6), get(0), op(0x1B)), []int{1<<32 - 1}, done(4, 5)},
		{"i>l", code(i64(-5), i64(-6), get(0), op(0x1B)), []int{2}, done(4, -5)},
		{"i>l", code(i64(-5), i64(-6), get(0), op(0x1B)), []int{0}, done(4, -6)},
		{"i>li", code(i64(9), i32(5), i32(6), get(0), op(0x1C, 0x7F)), []int{1}, done(4, 9, 5)},
		{"i>r", code(op(0xD2, 3), null, get(0), op(0x1C, 0x70)), []int{256}, done(4, 4)},
		{"i>r", code(op(0xD2, 3), null, get(0), op(0x1C, 0x70)), []int{0}, done(4, 0)},
		// Locals.
		{"ilr>rli", code(get(2), get(1), get(0)), []int{1, -2, 3}, done(4, 3, -2, 1)},
		{"ilr>ilr", code(i32(8), op(0x21, 0), i64(9), op(0x21, 1), null, op(0x21, 2), get(0), get(1), get(2)), []int{1, -2, 3}, done(4, 8, 9, 0)},
		{"ii>iiii", code(i32(8), op(0x22, 1), i32(9), op(0x22, 0), get(0), get(1)), []int{1, 2}, done(4, 8, 9, 9, 8)},
		// Globals.
		{">ilri", code(op(0x23), op(0x23, 1), op(0x23, 2), op(0x23, 3)), nil, done(4, 1<<32-7, -8, 3, 3)},
		{"i>ili", code(get(0), op(0x24), op(0x23), i64(math.MinInt), op(0x24, 1), op(0x23, 1), op(0x23, 3)), []int{1<<32 - 1}, done(4, 1<<32-1, math.MinInt, 3)},
		{"r>r", code(get(0), op(0x24, 2), op(0x23, 2)), []int{5}, done(4, 5)},
		// Constants.
		{">iiiii", code(i32(0), i32(1), i32(-1), i32(math.MinInt32), i32(math.MaxInt32)), nil, done(4, 0, 1, 1<<32-1, 1<<31, 1<<31-1)},
		{">lllll", code(i64(0), i64(1), i64(-1), i64(math.MinInt), i64(math.MaxInt)), nil, done(4, 0, 1, -1, math.MinInt, math.MaxInt)},
		// References.
		{">rrrrr", code(null, op(0xD2, 0), op(0xD2, 1), op(0xD2, 2), op(0xD2, 4)), nil, done(4, 0, 1, 2, 3, 5)},
		{"r>i", code(get(0), op(0xD1)), []int{0}, done(4, 1)},
		{"r>i", code(get(0), op(0xD1)), []int{1}, done(4, 0)},
		{"r>i", code(get(0), op(0xD1)), []int{5}, done(4, 0)},
		{">ii", code(null, op(0xD1), op(0xD2), op(0xD1)), nil, done(4, 1, 0)},
		// Calls.
		{"i>i", code(get(0), op(0x10, 2)), []int{6}, done(3, 7)},
		{"i>i", code(get(0), op(0x10, 4), op(0x10, 2)), []int{6}, done(2, 13)},
		{">", code(i64(6), op(0x10, 3)), nil, done(3)},
		{">i", code(i32(6), op(0x10)), nil, asking(3, 9, 6)},
	})
}

// 9.4: jumps to each of a table, and beyond the last one; an If's parts.
func TestWays(t *testing.T) {
	table := func(a int, n ...int) []api.Instr {
		in := with(0x02, none, get(0), labels(a, n...))
		for i := 1; i < 5; i++ {
			in = with(0x02, none, in, i32(i), op(0x0F))
		}
		return code(in, i32(5))
	}
	ways := code(get(0), either(-1, code(i32(1)), code(i32(2))))
	out := code(with(0x02, none, get(0), op(0x0D), i32(1), op(0x0F)), i32(2))
	l := []try{
		{"i>i", ways, []int{0}, done(4, 2)}, {"i>i", ways, []int{1}, done(4, 1)}, {"i>i", ways, []int{2}, done(4, 1)}, {"i>i", ways, []int{1 << 31}, done(4, 1)}, {"i>i", ways, []int{1<<32 - 1}, done(4, 1)},
		{"i>i", out, []int{0}, done(4, 1)}, {"i>i", out, []int{1}, done(4, 2)}, {"i>i", out, []int{2}, done(4, 2)}, {"i>i", out, []int{1 << 31}, done(4, 2)}, {"i>i", out, []int{1<<32 - 1}, done(4, 2)},
		{"i>i", code(get(0), with(0x04, none, i32(9), op(0x21)), get(0)), []int{0}, done(4, 0)},
		{"i>i", code(get(0), with(0x04, none, i32(9), op(0x21)), get(0)), []int{7}, done(4, 9)},
	}
	for k := range 8 {
		l = append(l,
			try{"i>i", table(4, 0, 1, 2, 3), []int{k}, done(4, min(k, 4)+1)},
			try{"i>i", table(1, 4, 0, 0), []int{k}, done(4, []int{5, 1, 1, 2, 2, 2, 2, 2}[k])},
			try{"i>i", table(2), []int{k}, done(4, 3)},
		)
	}
	for _, k := range []int{1 << 31, 1<<32 - 1, 1<<31 - 1, 256, 65536} {
		l = append(l, try{"i>i", table(3, 0, 1, 2), []int{k}, done(4, 4)})
	}
	tries(t, l)
}

// 9.4: what a jump, and a call's end, keeps, and what it leaves behind.
func TestKept(t *testing.T) {
	br, brIf := op(0x0C), op(0x0D)
	three := code(i64(1), i64(2), i64(3))
	more := func(l ...api.Instr) []api.Instr { return append(slices.Clone(three), l...) }
	// A loop that takes its local, and begins again with one less, above two others; behind it there is one.
	again := with(0x03, 4, op(0x21), i64(5), i64(6), get(0), i32(1), op(0x6B), op(0x22), get(0), brIf, op(0x21), op(0x1A), op(0x1A), get(0))
	tries(t, []try{
		{">l", more(br), nil, done(4, 3)},
		{">ll", more(br), nil, done(4, 2, 3)},
		{">", more(br), nil, done(4)},
		{">l", more(op(0x0F)), nil, done(4, 3)},
		{">ll", more(i32(7), labels(0, 0, 0)), nil, done(4, 2, 3)},
		{">lll", code(i64(10), with(0x02, 5, more(br)...)), nil, done(4, 10, 2, 3)},
		{">lll", code(i64(10), with(0x02, 5, with(0x02, 5, more(op(0x0C, 1))...), br)), nil, done(4, 10, 2, 3)},
		{">lll", code(i64(10), with(0x02, 5, i64(11), i64(12), with(0x02, none, more(i32(0), labels(1, 1))...), br)), nil, done(4, 10, 2, 3)},
		{"i>lll", code(i64(10), with(0x02, 5, more(get(0), brIf, op(0x1A), op(0x1A), i64(7))...)), []int{5}, done(4, 10, 2, 3)},
		{"i>lll", code(i64(10), with(0x02, 5, more(get(0), brIf, op(0x1A), op(0x1A), i64(7))...)), []int{0}, done(4, 10, 1, 7)},
		{"i>l", code(i64(1), i64(2), i64(3), get(0), brIf, op(0x7C), op(0x7C)), []int{0}, done(4, 6)},
		{"i>l", code(i64(1), i64(2), i64(3), get(0), brIf, op(0x7C), op(0x7C)), []int{1}, done(4, 3)},
		{"i>li", code(i64(3), get(0), again), []int{1}, done(4, 3, 0)},
		{"i>li", code(i64(3), get(0), again), []int{4}, done(1, 3, 0)},
		{"i>li", code(i64(3), get(0), again), []int{6}, stopped(0, api.TrapFuel)},
		{"i>li", code(i64(3), i32(20), get(0), with(0x04, 4, i32(1), op(0x6A))), []int{1}, done(4, 3, 21)},
		{"i>li", code(i64(3), i32(20), get(0), with(0x04, 4, i32(1), op(0x6A))), []int{0}, done(4, 3, 20)},
		{"i>ll", code(i64(3), i32(20), get(0), either(6, code(op(0xAC)), code(op(0x1A), i64(8)))), []int{1}, done(4, 3, 20)},
		{"i>ll", code(i64(3), i32(20), get(0), either(6, code(op(0xAC)), code(op(0x1A), i64(8)))), []int{0}, done(4, 3, 8)},
		// A call within others' numbers, which ends by a jump above some of its own.
		{">ll", code(i64(3), i32(9), op(0x10, 2), i32(1), op(0x10, 4), op(0x6A), op(0xAD)), nil, done(2, 3, 12)},
	})
	s := New()
	added(t, s, module(fun(">lll", i64(1), i64(2), op(0x10, 1), op(0x7C), i64(4)), fun(">l", i64(7), i64(8), i64(9), br)))
	calls(t, s, f(0), 2, done(0, 1, 11, 4))
}

// 9.4: CallIndirect, with each of its traps, and in their order.
func TestCallIndirect(t *testing.T) {
	call := func(typ, table int) []api.Instr { return code(i32(6), get(0), op(0x11, typ, table)) }
	tries(t, []try{
		{"i>i", call(4, 0), []int{0}, done(3, 7)},
		{"i>i", call(1, 0), []int{0}, done(3, 7)},
		{"i>i", call(0, 0), []int{0}, done(3, 7)},
		{"i>i", call(3, 1), []int{0}, done(3, 12)},
		{"i>i", call(4, 1), []int{2}, done(3, 7)},
		{"i>i", call(4, 0), []int{2}, asking(3, 9, 6)},
		{"i>", code(i64(6), get(0), op(0x11, 2)), []int{1}, done(3)},
		// TrapSig: another type, be it in its arguments alone, or in its results.
		{"i>i", call(4, 0), []int{1}, stopped(4, api.TrapSig)},
		{"i>l", call(6, 0), []int{0}, stopped(4, api.TrapSig)},
		{"i>l", call(6, 0), []int{2}, stopped(4, api.TrapSig)},
		{"i>", code(i64(6), get(0), op(0x11, 2)), []int{0}, stopped(4, api.TrapSig)},
		{"i>l", code(i64(6), get(0), op(0x11, 7)), []int{0}, stopped(4, api.TrapSig)},
		{"i>l", code(i64(6), get(0), op(0x11, 7)), []int{1}, stopped(4, api.TrapSig)},
		{"i>ll", code(get(0), op(0x11, 5)), []int{0}, stopped(4, api.TrapSig)},
		{"i>ll", code(get(0), op(0x11, 5)), []int{1}, stopped(4, api.TrapSig)},
		// TrapNull.
		{"i>i", call(4, 0), []int{3}, stopped(4, api.TrapNull)},
		{"i>i", call(4, 1), []int{1}, stopped(4, api.TrapNull)},
		{"i>ll", code(get(0), op(0x11, 5, 1)), []int{1}, stopped(4, api.TrapNull)},
		// TrapTable.
		{"i>i", call(4, 0), []int{4}, stopped(4, api.TrapTable)},
		{"i>i", call(4, 1), []int{3}, stopped(4, api.TrapTable)},
		{"i>i", call(4, 0), []int{1 << 31}, stopped(4, api.TrapTable)},
		{"i>i", call(4, 0), []int{1<<32 - 1}, stopped(4, api.TrapTable)},
		{"i>ll", code(get(0), op(0x11, 5)), []int{5}, stopped(4, api.TrapTable)},
	})
	// Where there is no fuel for a call that there is not, its own trap is told; else TrapFuel.
	s := played(t, "i>i", call(4, 0))
	for place, want := range []api.Trap{api.TrapFuel, api.TrapSig, api.TrapFuel, api.TrapNull, api.TrapTable} {
		calls(t, s, f(1), 1, stopped(0, want), place)
	}
	calls(t, s, f(1), 0, stopped(0, api.TrapFuel), 4)
	// A table with functions of another instance, whose types stand elsewhere among its module's.
	m := module(fun("i>i", i32(50), get(0), op(0x11, 2)))
	m = sigs(m, ">", "i>i")
	m.Imports = []api.Import{{Kind: 1, Lim: lim(0, -1)}}
	added(t, s, m, tab(1))
	calls(t, s, f(5), 2, done(0, 100), 0)
	calls(t, s, f(5), 2, stopped(1, api.TrapNull), 1)
	calls(t, s, f(5), 2, done(0, 51), 2)
	calls(t, s, f(5), 2, stopped(1, api.TrapTable), 3)
}

// 9.4: a function that is called runs in its own instance: its globals, tables and memories.
func TestInstances(t *testing.T) {
	s := New()
	one := func(n int, b string) api.Module {
		m := module(fun(">iiiir", op(0x23), i32(0), op(0x2D), op(0x3F), op(0xFC10), op(0xD2)))
		m.Globals, m.Mems, m.Tables = []api.Global{{T: 0x7F, Init: i32(n)}}, []api.Limits{lim(n, -1)}, []api.Limits{lim(n+5, -1)}
		m.Datas = []api.Data{{Off: i32(0), B: b}}
		return m
	}
	added(t, s, one(1, "x"))
	added(t, s, one(2, "y"))
	m := one(3, "z")
	m = sigs(m, ">iiiiriiiiriiiir")
	m.Imports = []api.Import{{T: 0}, {T: 0}}
	m.Funcs, m.Codes = []int{0, 1}, append(slices.Clone(m.Codes), api.Code{L: code(op(0x10, 2), op(0x10, 0), op(0x10, 1))})
	added(t, s, m, f(1), f(0))
	calls(t, s, f(3), 4, done(0, 3, 'z', 3, 8, 2, 2, 'y', 2, 7, 2, 1, 'x', 1, 6, 1))
}
