package exec

import (
	"math"
	"strings"
	"testing"

	"scarf/api"
)

// 9.4, 9.5: the chapter's and the document's examples.
func TestExamples(t *testing.T) {
	s := New()
	added(t, s, module(fun("ii>i", get(0), get(1), op(0x6D))))
	r, e := s.Call(f(0), []int{7, 2}, 1)
	says(t, e, api.OK)
	stands(t, r, api.Status{Kind: api.RunDone, Vals: []int{3}})
	calls(t, s, f(0), 1, stopped(0, api.TrapDivide), 7, 0)
	calls(t, s, f(0), 0, stopped(0, api.TrapFuel), 7, 2)
}

// 9.5: what may not be called, and with which numbers.
func TestCallRefused(t *testing.T) {
	s := New()
	host(t, s, "ilr>", 0)
	m := module(fun("ilr>ilr", get(0), get(1), get(2)), fun(">"))
	m.Tables, m.Mems, m.Globals = []api.Limits{lim(1, 1)}, []api.Limits{lim(1, 1)}, []api.Global{{T: 0x7F, Init: i32(1)}}
	added(t, s, m)
	refuses := func(x api.Extern, fuel int, args ...int) {
		t.Helper()
		if r, e := s.Call(x, args, fuel); r != nil || e != api.ErrArg {
			t.Errorf("%v %v %d: %v %d", x, args, fuel, r, e)
		}
	}
	for kind := -1; kind < 6; kind++ {
		for _, addr := range []int{-1, 0, 1, 2, 3, 4, math.MaxInt, math.MinInt, 1 << 32} {
			if kind != 0 || addr < 0 || addr > 2 {
				refuses(api.Extern{Kind: kind, Addr: addr}, 1)
				refuses(api.Extern{Kind: kind, Addr: addr}, 1, 1, 2, 3)
			}
		}
	}
	for _, fuel := range []int{-1, -2, math.MinInt} {
		refuses(f(2), fuel)
		refuses(f(1), fuel, 1, 2, 3)
	}
	for x := range 2 {
		for _, args := range [][]int{nil, {1}, {1, 2}, {1, 2, 3, 0}, {1, 2, 3, 0, 0, 0}} {
			refuses(f(x), 1, args...)
		}
		for _, n := range []int{-1, 1 << 32, 1<<32 + 1, math.MaxInt, math.MinInt, -1 << 31, math.MinInt32} {
			refuses(f(x), 1, n, 2, 3)
		}
		for _, n := range []int{-1, 4, 5, 1 << 32, math.MaxInt, math.MinInt} {
			refuses(f(x), 1, 1, 2, n)
		}
	}
	refuses(f(2), 1, 0)
	for _, i := range []int{0, 1, 1 << 31, 1<<32 - 1} {
		for _, l := range []int{0, -1, math.MaxInt, math.MinInt, 1 << 32} {
			for r := range 4 {
				calls(t, s, f(0), 1, asking(0, 0, i, l, r), i, l, r)
				calls(t, s, f(1), 1, done(0, i, l, r), i, l, r)
			}
		}
	}
	// As many functions as there are now.
	host(t, s, ">", 0)
	calls(t, s, f(1), 1, done(0, 1, 2, 4), 1, 2, 4)
	refuses(f(1), 1, 1, 2, 5)
}

// chain is a module in which a function calls itself, as often as it is told, and then does something.
func chain(last ...api.Instr) api.Module {
	again := code(get(0), i32(1), op(0x6B), op(0x10))
	return module(fun("i>i", get(0), either(-1, again, last)))
}

// 9.4: fuel, of each call one, ahead of all else.
func TestFuelOfCalls(t *testing.T) {
	s := New()
	added(t, s, chain(i32(5)))
	added(t, s, chain(op(0)))
	for n := range 64 {
		for fuel := range n + 4 {
			if fuel < n+1 {
				calls(t, s, f(0), fuel, stopped(0, api.TrapFuel), n)
				calls(t, s, f(1), fuel, stopped(0, api.TrapFuel), n)
			} else {
				calls(t, s, f(0), fuel, done(fuel-n-1, 5), n)
				calls(t, s, f(1), fuel, stopped(fuel-n-1, api.TrapUnreachable), n)
			}
		}
		calls(t, s, f(0), math.MaxInt, done(math.MaxInt-n-1, 5), n)
	}
	// Calls one behind the other.
	added(t, s, module(fun(">", op(0x10, 1), op(0x10, 1), op(0x10, 2)), fun(">"), fun(">", op(0x10, 1))))
	for fuel := range 5 {
		calls(t, s, f(2), fuel, stopped(0, api.TrapFuel))
	}
	calls(t, s, f(2), 5, done(0))
	calls(t, s, f(2), 6, done(1))
}

// 9.4: MaxDepth calls, and one more; TrapFuel is ahead of TrapDepth.
func TestDepth(t *testing.T) {
	s := New()
	added(t, s, chain(i32(5)))
	calls(t, s, f(0), 64, done(0, 5), 63)
	calls(t, s, f(0), 100, done(36, 5), 63)
	for _, n := range []int{64, 65, 1000, 1<<32 - 1} {
		calls(t, s, f(0), 63, stopped(0, api.TrapFuel), n)
		calls(t, s, f(0), 64, stopped(0, api.TrapFuel), n)
		calls(t, s, f(0), 65, stopped(0, api.TrapDepth), n)
		calls(t, s, f(0), 66, stopped(1, api.TrapDepth), n)
		calls(t, s, f(0), 1000, stopped(935, api.TrapDepth), n)
	}
	// By way of a table, and of another instance, likewise.
	m := module(fun("i>i", get(0), either(-1, code(get(0), i32(1), op(0x6B), i32(0), op(0x11)), code(get(0), op(0x10)))))
	m.Imports = []api.Import{{T: 0}}
	m.Funcs, m.Codes = []int{0}, m.Codes[:1]
	m.Tables, m.Elems = []api.Limits{lim(1, 1)}, []api.Elem{{Off: i32(0), F: []int{1}}}
	n := added(t, s, m, f(0))
	if n != 1 {
		t.Fatal(n)
	}
	calls(t, s, f(1), 64, done(0, 5), 62)
	calls(t, s, f(1), 65, stopped(0, api.TrapDepth), 63)
	calls(t, s, f(1), 64, stopped(0, api.TrapFuel), 63)
	calls(t, s, f(1), 65, stopped(0, api.TrapDepth), 64)
	calls(t, s, f(1), 64, stopped(0, api.TrapFuel), 64)
	// Calls that have ended are not under way.
	l := strings.Repeat("x", 200)
	var many []api.Instr
	for range l {
		many = append(many, op(0x10, 1))
	}
	added(t, s, module(fun(">", many...), fun(">")))
	calls(t, s, f(2), 201, done(0))
	// The host is asked at the greatest depth, and a call of the host's is none that is under way.
	h := host(t, s, ">i", 9)
	deep := chain(op(0x10, 0), op(0x1A), op(0x10, 0))
	deep.Codes[0].L[1].L[3].A = 1
	deep.Imports = []api.Import{{T: 1}}
	deep = sigs(deep, ">i")
	added(t, s, deep, h)
	x := f(h.Addr + 1)
	r := calls(t, s, x, 66, asking(1, 9), 63)
	says(t, r.Answer(1), api.OK)
	stands(t, r, asking(0, 9))
	says(t, r.Answer(2), api.OK)
	stands(t, r, done(0, 2))
	calls(t, s, x, 64, stopped(0, api.TrapFuel), 63)
	calls(t, s, x, 65, stopped(0, api.TrapDepth), 64)
	calls(t, s, x, 65, asking(0, 9), 63)
}

// 9.4: fuel, of each jump that is Back one, ahead of all else; of other jumps none.
func TestFuelOfJumps(t *testing.T) {
	s := New()
	dec := code(get(0), i32(1), op(0x6B), op(0x22))
	count := func(l ...api.Instr) api.Instr { return with(0x03, none, append(dec[:4:4], l...)...) }
	added(t, s, module(
		// A BrIf, which is gone n-1 times.
		fun("i>i", count(op(0x0D)), get(0)),
		// A Br, behind a BrIf out of the loop.
		fun("i>i", with(0x02, none, count(op(0x45), op(0x0D, 1), op(0x0C))), get(0)),
		// A BrTable, to the loop unless 0 is taken.
		fun("i>i", with(0x02, none, count(labels(0, 1))), get(0)),
		// Jumps that are not Back.
		fun("i>i", with(0x02, none, get(0), op(0x0D), with(0x02, none, op(0x0C, 0))), i32(9), get(0), either(-1, code(i32(1), op(0x0C, 0)), code(i32(2), op(0x0F))), labels(0, 0, 0)),
		// For ever.
		fun("i>", with(0x03, none, op(0x0C))),
		// A loop within a loop: n times n jumps.
		part{"i>i", "i", code(with(0x03, none, get(0), op(0x21, 1), with(0x03, none, get(1), i32(1), op(0x6B), op(0x22, 1), op(0x0D)), get(0), i32(1), op(0x6B), op(0x22), op(0x0D)), get(0))},
	))
	for n := 1; n < 20; n++ {
		for which := range 3 {
			for fuel := range n {
				calls(t, s, f(which), fuel, stopped(0, api.TrapFuel), n)
			}
			calls(t, s, f(which), n, done(0, 0), n)
			calls(t, s, f(which), n+7, done(7, 0), n)
		}
		calls(t, s, f(4), n, stopped(0, api.TrapFuel), n)
		// n-1 jumps of the outer loop, and one fewer in each turn of the inner one.
		inner := n * (n - 1) / 2
		calls(t, s, f(5), n+inner, done(0, 0), n)
		calls(t, s, f(5), n+inner-1, stopped(0, api.TrapFuel), n)
	}
	calls(t, s, f(3), 1, done(0, 2), 0)
	calls(t, s, f(3), 1, done(0, 9), 3)
	calls(t, s, f(0), 100000, done(1, 0), 99999)
}

// 9.4: what a call's locals are at first, whatever was on the stack, and whatever ran ahead of it.
func TestLocals(t *testing.T) {
	s := New()
	sum := code(get(1), op(0xAD), get(2), op(0x7C), get(3), op(0xD1), op(0xAD), op(0x7C))
	set := code(i32(77), op(0x21, 1), i64(88), op(0x21, 2), op(0xD2), op(0x21, 3))
	added(t, s, module(
		part{"i>l", "ilr", append(sum, set...)},
		fun(">ll", i64(-1), i64(-1), op(0x1A), op(0x1A), i32(9), op(0x10, 0), i32(9), op(0x10, 0)),
		part{"il>il", strings.Repeat("i", 254), code(get(255), get(1), get(1), op(0x1A))},
	))
	calls(t, s, f(0), 1, done(0, 1), 5)
	calls(t, s, f(1), 3, done(0, 1, 1))
	calls(t, s, f(2), 1, done(0, 0, 5), 4, 5)
	// Each call has its own: a call within another one leaves the outer one's as they were.
	again := with(0x04, none, get(0), i32(1), op(0x6B), op(0x10), op(0x1A))
	added(t, s, module(part{"i>i", "i", code(get(0), op(0x21, 1), get(0), again, get(0), get(1), op(0x46))}))
	calls(t, s, f(3), 40, done(0, 1), 39)
}

// 9.4: arguments and results of calls, in their order, among other numbers on the stack.
func TestArguments(t *testing.T) {
	s := New()
	host(t, s, "lri>lir", 6)
	m := module(
		fun("irl>lri", get(2), get(1), get(0)),
		fun(">lllri", i64(1), i64(2), i32(3), null, i64(4), op(0x10, 1)),
		fun(">ill", i32(7), i64(8), null, i32(9), op(0x10, 0), op(0x1A), op(0x1A), i64(5)),
	)
	m.Imports = []api.Import{{T: 3}}
	m = sigs(m, "lri>lir")
	added(t, s, m, f(0))
	calls(t, s, f(1), 1, done(0, 3, 2, 1), 1, 2, 3)
	calls(t, s, f(2), 2, done(0, 1, 2, 4, 0, 3))
	r := calls(t, s, f(3), 2, asking(0, 6, 8, 0, 9))
	says(t, r.Answer(10, 11, 1), api.OK)
	stands(t, r, done(0, 7, 10, 5))
	wide := strings.Repeat("i", 32)
	var l []api.Instr
	for i := range 32 {
		l = append(l, get(31-i))
	}
	added(t, s, module(fun(wide+">"+wide, l...)))
	var args, back []int
	for i := range 32 {
		args, back = append(args, i*i), append(back, (31-i)*(31-i))
	}
	calls(t, s, f(4), 1, done(0, back...), args...)
}

// 9.4, 9.5: a call of the host's by itself.
func TestHostAlone(t *testing.T) {
	s := New()
	x := host(t, s, "il>ri", -7)
	calls(t, s, x, 0, stopped(0, api.TrapFuel), 1, 2)
	r := calls(t, s, x, 1, asking(0, -7, 1, 2), 1, 2)
	says(t, r.Answer(1, 5), api.OK)
	stands(t, r, done(0, 1, 5))
	r = calls(t, s, x, 9, asking(8, -7, 1<<32-1, -2), 1<<32-1, -2)
	says(t, r.Answer(0, 1<<32-1), api.OK)
	stands(t, r, done(8, 0, 1<<32-1))
	x = host(t, s, ">", 0)
	r = calls(t, s, x, 1, asking(0, 0))
	says(t, r.Answer(), api.OK)
	stands(t, r, done(0))
}

// asker is a store with a function that asks the host within a call within a call, and goes on with what it is answered.
func asker(t *testing.T) *Store {
	t.Helper()
	s := New()
	host(t, s, "i>lir", 5)
	m := module(
		fun("i>lir", i64(1), get(0), i32(1), op(0x6A), op(0x10, 2), op(0x1A), op(0x1A), op(0x7C), get(0), op(0x10, 0), op(0x1A), op(0x1A), op(0x7C), i32(2), null),
		fun("i>lir", get(0), op(0x10, 0)),
	)
	m.Imports = []api.Import{{T: 0}}
	added(t, s, m, f(0))
	return s
}

// 9.5: Answer, with right numbers, and wrong ones.
func TestAnswer(t *testing.T) {
	s := asker(t)
	r := calls(t, s, f(1), 5, asking(2, 5, 8), 7)
	for _, vals := range [][]int{nil, {1}, {1, 2}, {1, 2, 3, 0}, {1, 2, 3, 4}, {1, -1, 0}, {1, 1 << 32, 0}, {1, math.MaxInt, 0}, {1, math.MinInt, 0}, {1, 2, -1}, {1, 2, 4}, {1, 2, 1 << 32}, {1, 2, math.MaxInt}, {1, 2, math.MinInt}} {
		says(t, r.Answer(vals...), api.ErrArg)
		stands(t, r, asking(2, 5, 8))
	}
	says(t, r.Answer(100, 1<<32-1, 3), api.OK)
	stands(t, r, asking(1, 5, 7))
	// As many functions as there are when it is answered.
	says(t, r.Answer(20, 0, 4), api.ErrArg)
	host(t, s, ">", 0)
	says(t, r.Answer(20, 0, 4), api.OK)
	stands(t, r, done(1, 121, 2, 0))
	for _, vals := range [][]int{nil, {20, 0, 0}, {1}} {
		says(t, r.Answer(vals...), api.ErrState)
	}
	stands(t, r, done(1, 121, 2, 0))
	r = calls(t, s, f(1), 3, asking(0, 5, 8), 7)
	says(t, r.Answer(math.MinInt, 0, 0), api.OK)
	stands(t, r, stopped(0, api.TrapFuel))
	says(t, r.Answer(1, 2, 0), api.ErrState)
	stands(t, r, stopped(0, api.TrapFuel))
}

// 9.5: Fail.
func TestFail(t *testing.T) {
	s := asker(t)
	for _, trap := range []api.Trap{1, api.TrapHost, api.TrapLeave, 21, 1000, math.MaxInt} {
		r := calls(t, s, f(1), 5, asking(2, 5, 8), 7)
		for _, none := range []api.Trap{0, -1, -10, math.MinInt} {
			says(t, r.Fail(none), api.ErrArg)
			stands(t, r, asking(2, 5, 8))
		}
		says(t, r.Fail(trap), api.OK)
		stands(t, r, stopped(2, trap))
		says(t, r.Fail(api.TrapHost), api.ErrState)
		says(t, r.Fail(0), api.ErrState)
		says(t, r.Answer(1, 2, 3), api.ErrState)
		says(t, r.Burn(1), api.ErrState)
		says(t, r.Burn(0), api.ErrState)
		stands(t, r, stopped(2, trap))
	}
	r := called(t, s, f(0), 1, 1)
	says(t, r.Fail(3), api.OK)
	stands(t, r, stopped(0, 3))
	added(t, s, module(fun(">")))
	r = calls(t, s, f(3), 4, done(3))
	says(t, r.Fail(1), api.ErrState)
	says(t, r.Fail(0), api.ErrState)
	stands(t, r, done(3))
}

// 9.5: Burn.
func TestBurn(t *testing.T) {
	s := asker(t)
	r := calls(t, s, f(1), 12, asking(9, 5, 8), 7)
	for _, n := range []int{-1, -9, 10, 11, math.MaxInt, math.MinInt} {
		says(t, r.Burn(n), api.ErrArg)
		stands(t, r, asking(9, 5, 8))
	}
	says(t, r.Burn(0), api.OK)
	stands(t, r, asking(9, 5, 8))
	says(t, r.Burn(2), api.OK)
	stands(t, r, asking(7, 5, 8))
	says(t, r.Burn(8), api.ErrArg)
	says(t, r.Burn(7), api.OK)
	stands(t, r, asking(0, 5, 8))
	says(t, r.Burn(1), api.ErrArg)
	says(t, r.Burn(0), api.OK)
	says(t, r.Answer(1, 2, 3), api.OK)
	stands(t, r, stopped(0, api.TrapFuel))
	says(t, r.Burn(0), api.ErrState)
	r = called(t, s, f(1), 12, 7)
	says(t, r.Burn(8), api.OK)
	says(t, r.Answer(1, 2, 3), api.OK)
	stands(t, r, asking(0, 5, 7))
	says(t, r.Answer(1, 2, 3), api.OK)
	stands(t, r, done(0, 3, 2, 0))
	says(t, r.Burn(0), api.ErrState)
	says(t, r.Burn(-1), api.ErrState)
	stands(t, r, done(0, 3, 2, 0))
}

// 9.4: what was done ahead of a trap, or of a question, stays, and is to be seen while the host is asked.
func TestStays(t *testing.T) {
	s := New()
	host(t, s, ">", 0)
	m := module(fun(">", i32(5), op(0x24), i32(8), i32(65), op(0x3A), i32(1), op(0xD2), op(0x26), op(0x10, 0), op(0x23), i32(1), op(0x6A), op(0x24), op(0)))
	m.Imports = []api.Import{{T: 0}}
	m.Globals, m.Mems, m.Tables = []api.Global{{T: 0x7F, Mut: true, Init: i32(0)}}, []api.Limits{lim(1, 1)}, []api.Limits{lim(2, 2)}
	added(t, s, m, f(0))
	look := func(want int, b string, ref int) {
		t.Helper()
		g, _ := s.Global(glob(0))
		got, _ := s.Mem(memo(0)).Read(8, 1)
		l, _ := s.Table(tab(0))
		if g != want || got != b || l[1] != ref {
			t.Errorf("%d %q %v", g, got, l)
		}
	}
	look(0, "\x00", 0)
	r := calls(t, s, f(1), 2, asking(0, 0))
	look(5, "A", 1)
	s.Mem(memo(0)).Write(8, "B")
	says(t, r.Answer(), api.OK)
	stands(t, r, stopped(0, api.TrapUnreachable))
	look(6, "B", 1)
}

// 9.5: two runs of one store side by side, and a third one while both ask.
func TestSideBySide(t *testing.T) {
	s := New()
	host(t, s, "i>i", 0)
	m := module(
		// It adds what the host answers to what it keeps in a local, and to the global.
		part{"i>i", "i", code(get(0), op(0x10), op(0x22, 1), op(0x23), op(0x6A), op(0x24), get(1), op(0x10), get(1), op(0x6A))},
		fun(">i", op(0x23)),
		// It has as many pages more, and tells how many there are behind a question.
		fun("i>i", get(0), op(0x40), op(0x1A), i32(0), op(0x10), op(0x1A), op(0x3F)),
	)
	m.Imports = []api.Import{{T: 0}}
	m.Globals, m.Mems = []api.Global{{T: 0x7F, Mut: true, Init: i32(0)}}, []api.Limits{lim(1, -1)}
	added(t, s, m, f(0))
	a := calls(t, s, f(1), 10, asking(8, 0, 100), 100)
	b := calls(t, s, f(1), 20, asking(18, 0, 200), 200)
	says(t, b.Answer(3), api.OK)
	stands(t, b, asking(17, 0, 3))
	stands(t, a, asking(8, 0, 100))
	says(t, a.Answer(40), api.OK)
	stands(t, a, asking(7, 0, 40))
	stands(t, b, asking(17, 0, 3))
	c := calls(t, s, f(2), 1, done(0, 43))
	says(t, a.Fail(api.TrapHost), api.OK)
	stands(t, b, asking(17, 0, 3))
	says(t, b.Answer(1), api.OK)
	stands(t, b, done(17, 4))
	stands(t, a, stopped(7, api.TrapHost))
	stands(t, c, done(0, 43))
	// More is added, and more is grown, while a run asks.
	a = calls(t, s, f(3), 10, asking(8, 0, 0), 2)
	n := m
	n.Funcs, n.Codes, n.Exports = nil, nil, nil
	for range 50 {
		added(t, s, n, f(0))
		host(t, s, "l>", 5)
	}
	b = calls(t, s, f(3), 10, asking(8, 0, 0), 4)
	says(t, a.Answer(9), api.OK)
	stands(t, a, done(8, 7))
	says(t, b.Answer(9), api.OK)
	stands(t, b, done(8, 7))
}

// 9.5: many runs under way, answered in another order than they began.
func TestManyRuns(t *testing.T) {
	s := asker(t)
	var l []*Run
	for i := range 100 {
		l = append(l, calls(t, s, f(1), 10+i, asking(7+i, 5, i+1), i))
	}
	for i := range l {
		n := i * 37 % 100
		says(t, l[n].Answer(n, n, n%3), api.OK)
	}
	for i, r := range l {
		stands(t, r, asking(6+i, 5, i))
	}
	for i := range l {
		n := 99 - i
		says(t, l[n].Answer(1000*n, 0, 0), api.OK)
		stands(t, l[n], done(6+n, 1001*n+1, 2, 0))
	}
}
