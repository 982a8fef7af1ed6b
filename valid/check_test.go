package valid

import (
	"fmt"
	"math"
	"slices"
	"strings"
	"testing"

	"scarf/api"
	"scarf/instr"
	"scarf/module"
)

// bad is something that is put into a module, and its fault.
type bad struct {
	name string
	put  func(m *api.Module)
	e    api.Errno
}

// grow puts a thing behind a list that others do not share.
func grow[T any](l *[]T, things ...T) { *l = slices.Concat(*l, things) }

// limitsBad are limits that neither a table nor a memory may have.
func limitsBad() []api.Limits {
	return []api.Limits{{Min: 1025, Max: -1}, {Min: 2, Max: 1}, {Min: 0, Max: 1025}, {Min: 1<<32 - 1, Max: -1}, {Min: 0, Max: 1<<32 - 1}}
}

// badConstant is an instruction that may not be a constant of I32, in whole.
type badConstant struct {
	name string
	in   api.Instr
	e    api.Errno
}

func badConstants() []badConstant {
	return []badConstant{
		{"none", op(instr.Nop), api.ErrConst}, {"i64", c64, api.ErrType}, {"null", null, api.ErrType}, {"func", op(instr.RefFunc, 0), api.ErrType}, {"func beyond", op(instr.RefFunc, 1000), api.ErrIndex},
		{"global beyond", op(instr.GlobalGet, 1000), api.ErrIndex}, {"own global", op(instr.GlobalGet, 4), api.ErrIndex}, {"own global of another type", op(instr.GlobalGet, 5), api.ErrIndex}, {"global that may be set", op(instr.GlobalGet, 1), api.ErrConst}, {"global of another type", op(instr.GlobalGet, 2), api.ErrType},
		{"block", with(instr.OpBlock, api.BlockI32, c32), api.ErrConst}, {"add", op(0x6A), api.ErrConst}, {"local", op(instr.LocalGet), api.ErrConst}, {"unreachable", op(instr.Unreachable), api.ErrConst}, {"load that names nothing", op(0x28, 0, 9, 99), api.ErrConst},
	}
}

// moduleBads are all faults beside those of codes, each by itself, in the order in which they are told; each can be put into whole, behind what is there.
func moduleBads() []bad {
	l := []bad{
		{"import's type", func(m *api.Module) { grow(&m.Imports, api.Import{Kind: 0, T: len(m.Types) + 50}) }, api.ErrIndex},
	}
	for _, lim := range limitsBad() {
		l = append(l, bad{"imported table", func(m *api.Module) { grow(&m.Imports, api.Import{Kind: 1, Lim: lim}) }, api.ErrLimit})
		l = append(l, bad{"imported memory", func(m *api.Module) { grow(&m.Imports, api.Import{Kind: 2, Lim: lim}) }, api.ErrLimit})
	}
	l = append(l, bad{"imported memory of 17 pages", func(m *api.Module) { grow(&m.Imports, api.Import{Kind: 2, Lim: api.Limits{Min: 17, Max: -1}}) }, api.ErrLimit})
	l = append(l, bad{"imported memory up to 17 pages", func(m *api.Module) { grow(&m.Imports, api.Import{Kind: 2, Lim: api.Limits{Max: 17}}) }, api.ErrLimit})
	l = append(l, bad{"function's type", func(m *api.Module) {
		grow(&m.Funcs, len(m.Types)+50)
		grow(&m.Codes, api.Code{})
	}, api.ErrIndex})
	for _, lim := range limitsBad() {
		l = append(l, bad{"table", func(m *api.Module) { grow(&m.Tables, lim) }, api.ErrLimit})
	}
	for _, lim := range append(limitsBad(), api.Limits{Min: 17, Max: -1}, api.Limits{Max: 17}) {
		l = append(l, bad{"memory", func(m *api.Module) { grow(&m.Mems, lim) }, api.ErrLimit})
	}
	for _, x := range badConstants() {
		l = append(l, bad{"global " + x.name, func(m *api.Module) { grow(&m.Globals, api.Global{T: api.I32, Init: x.in}) }, x.e})
	}
	for kind := range 4 {
		l = append(l, bad{"export beyond", func(m *api.Module) { grow(&m.Exports, api.Export{Name: "beyond", Kind: kind, I: 100}) }, api.ErrIndex})
		l = append(l, bad{"export's name", func(m *api.Module) { grow(&m.Exports, api.Export{Name: "m", Kind: kind}) }, api.ErrDup})
	}
	l = append(l, bad{"start beyond", func(m *api.Module) { m.Start = 100 }, api.ErrIndex})
	l = append(l, bad{"start that takes", func(m *api.Module) { m.Start = 6 }, api.ErrType})
	l = append(l, bad{"start that leaves", func(m *api.Module) { m.Start = 5 }, api.ErrType})
	l = append(l, bad{"elem's table", func(m *api.Module) { grow(&m.Elems, api.Elem{Table: 100, Off: c32}) }, api.ErrIndex})
	for _, x := range badConstants() {
		l = append(l, bad{"elem " + x.name, func(m *api.Module) { grow(&m.Elems, api.Elem{Off: x.in}) }, x.e})
	}
	return append(l, bad{"elem's function", func(m *api.Module) { grow(&m.Elems, api.Elem{Off: c32, F: []int{0, 1, 100}}) }, api.ErrIndex})
}

// codeBads are faults of codes, each of a function of its own.
func codeBads() []bad {
	var l []bad
	for _, x := range []struct {
		sig    string
		locals int
		e      api.Errno
		l      []api.Instr
	}{
		{">", 0, api.ErrIndex, code(op(instr.LocalGet))}, {"i>", 256, api.ErrFull, code(op(instr.LocalGet, 1000))}, {">", 0, api.ErrType, code(op(instr.Drop))}, {">", 0, api.ErrAlign, code(op(0x28, 0, 3))}, {">", 0, api.ErrConst, code(op(instr.GlobalSet))}, {">i", 0, api.ErrType, nil},
	} {
		l = append(l, bad{"code", func(m *api.Module) { *m = plus(*m, x.sig, x.l, slices.Repeat([]int{0x7F}, x.locals)...) }, x.e})
	}
	return l
}

// dataBads are faults of datas.
func dataBads() []bad {
	l := []bad{{"data's memory", func(m *api.Module) { grow(&m.Datas, api.Data{Mem: 100, Off: c32}) }, api.ErrIndex}}
	for _, x := range badConstants() {
		l = append(l, bad{"data " + x.name, func(m *api.Module) { grow(&m.Datas, api.Data{Off: x.in}) }, x.e})
	}
	return l
}

// rank tells at which of the steps, in the chapter's order, a fault is told.
func rank(name string) int {
	for i, s := range []string{"import", "function", "table", "memory", "global", "export", "start", "elem", "code", "data"} {
		if strings.HasPrefix(name, s) {
			return i
		}
	}
	panic(name)
}

// 7.2: each fault by itself, and ahead of each other one, whichever was put into the module first: the first one is told.
func TestCheckFaults(t *testing.T) {
	all := slices.Concat(moduleBads(), codeBads(), dataBads())
	for i, x := range all {
		m := whole()
		x.put(&m)
		checks(t, m, x.e, x.name)
		for _, y := range all[i+1:] {
			for _, order := range [][2]bad{{x, y}, {y, x}} {
				m := whole()
				order[0].put(&m)
				order[1].put(&m)
				want := order[0].e
				if rank(x.name) < rank(y.name) {
					want = x.e
				}
				if strings.HasPrefix(x.name, "start") && strings.HasPrefix(y.name, "start") {
					// There is one start alone.
					want = order[1].e
				}
				checks(t, m, want, order[0].name, order[1].name)
			}
		}
	}
}

// 7.2: a module that may not be laid, whatever else is at fault in it.
func TestCheckArg(t *testing.T) {
	loop := []api.Instr{{Op: instr.OpBlock, A: api.BlockNone}}
	loop[0].L = loop
	deep := code(op(instr.Nop))
	for range 33 {
		deep = code(with(instr.OpBlock, api.BlockNone, deep...))
	}
	for i, m := range []api.Module{
		{Types: []api.FuncType{{P: []int{0x7D}}}}, {Types: []api.FuncType{{R: []int{0}}}}, {Types: []api.FuncType{{P: slices.Repeat([]int{0x7F}, 33)}}}, {Types: make([]api.FuncType, 1001)},
		{Imports: []api.Import{{Kind: 4}}}, {Imports: []api.Import{{Kind: -1}}}, {Imports: []api.Import{{Kind: 0, T: -1}}}, {Imports: []api.Import{{Kind: 2, T: 1}}}, {Imports: []api.Import{{Kind: 3, T: 0x7C}}}, {Imports: []api.Import{{Kind: 1, Lim: api.Limits{Min: -1}}}}, {Imports: []api.Import{{Kind: 2, Lim: api.Limits{Max: -2}}}}, {Imports: []api.Import{{Kind: 1, Name: "\xff"}}}, {Imports: []api.Import{{Kind: 1, Mod: strings.Repeat("m", 101)}}},
		{Funcs: []int{0}}, {Codes: []api.Code{{}}}, {Funcs: []int{-1}, Codes: []api.Code{{}}}, {Tables: []api.Limits{{Min: -1, Max: -1}}}, {Tables: []api.Limits{{Min: 0, Max: -2}}}, {Mems: []api.Limits{{Min: 1 << 32, Max: -1}}},
		{Globals: []api.Global{{T: 0x7B, Init: c32}}}, {Globals: []api.Global{{T: 0x7F, Init: op(0x43)}}}, {Globals: []api.Global{{T: 0x7F, Init: op(instr.GlobalGet, -1)}}}, {Globals: []api.Global{{T: 0x7F, Init: loop[0]}}},
		{Exports: []api.Export{{Kind: 4}}}, {Exports: []api.Export{{I: -1}}}, {Exports: []api.Export{{Name: "\x80"}}}, {Start: -1}, {Start: math.MinInt}, {Start: 1<<32 + 1},
		{Elems: []api.Elem{{Table: -1, Off: c32}}}, {Elems: []api.Elem{{Off: op(0xFD)}}}, {Elems: []api.Elem{{Off: c32, F: []int{-1}}}}, {Datas: []api.Data{{Mem: -1, Off: c32}}}, {Datas: []api.Data{{Off: op(instr.I32Const, 1<<31)}}}, {Datas: make([]api.Data, 1001)},
		{Types: make([]api.FuncType, 1), Funcs: []int{0}, Codes: []api.Code{{Locals: slices.Repeat([]int{0x7F}, 257)}}}, {Types: make([]api.FuncType, 1), Funcs: []int{0}, Codes: []api.Code{{Locals: []int{0x7D}}}},
		function(">", code(op(0x0B))), function(">", code(op(instr.Br, -1))), function(">", code(op(instr.LocalGet, 1<<32))), function(">", code(op(0x28, 0, 64))), function(">", code(op(0x28, 0, -1))), function(">", code(op(0x28, 0, 0, -1))), function(">", code(op(instr.SelectT, 0))), function(">", code(with(instr.OpBlock, -3))), function(">", code(table(0, 0, -1))), function(">", code(table(0, make([]int, 1001)...))), function(">", code(api.Instr{Op: instr.OpBlock, A: api.BlockNone, E: deep[:1]})), function(">", loop), function(">", deep), function(">", make([]api.Instr, 8193)),
	} {
		checks(t, m, api.ErrArg, i)
		for _, x := range []bad{moduleBads()[0], codeBads()[0], dataBads()[0]} {
			x.put(&m)
		}
		checks(t, m, api.ErrArg, i)
	}
	// At the edges they may be laid.
	for i, m := range []api.Module{function(">", deep[0].L), function(">", slices.Repeat(code(op(instr.Nop)), 8192)), function(">", code(c32, table(0, make([]int, 1000)...))), {Types: make([]api.FuncType, 1000)}} {
		checks(t, m, api.OK, i)
	}
}

// 7.2: a module of too many bytes is looked at all the same.
func TestCheckMany(t *testing.T) {
	m := whole()
	for range 70 {
		grow(&m.Datas, api.Data{Off: c32, B: strings.Repeat("b", 1000)})
	}
	if _, e := module.Put(m); e != api.ErrFull {
		t.Fatal(e)
	}
	checks(t, m, api.OK)
	for _, x := range slices.Concat(moduleBads(), codeBads(), dataBads()) {
		n := m
		x.put(&n)
		checks(t, n, x.e, x.name)
	}
	grow(&m.Datas, api.Data{Off: c32, Mem: -1})
	checks(t, m, api.ErrArg)
	full := function(">", slices.Repeat(code(op(instr.Nop)), 8192))
	for range 99 {
		full = plus(full, ">", full.Codes[0].L)
	}
	checks(t, full, api.OK)
	checks(t, plus(full, ">", code(op(instr.Drop))), api.ErrType)
}

// 7.2: of two things in one list the first one's fault is told.
func TestCheckFirst(t *testing.T) {
	l := func(n int) api.Limits { return api.Limits{Min: n, Max: -1} }
	f := func(n int) api.Import { return api.Import{Kind: 0, T: n} }
	of := func(kind, n int) api.Import { return api.Import{Kind: kind, Lim: l(n)} }
	types := make([]api.FuncType, 2)
	for i, x := range []struct {
		m api.Module
		e api.Errno
	}{
		{api.Module{Imports: []api.Import{f(0)}}, api.ErrIndex}, {api.Module{Types: types, Imports: []api.Import{f(1), of(1, 1024), of(2, 16)}}, api.OK}, {api.Module{Types: types, Imports: []api.Import{f(2)}}, api.ErrIndex},
		{api.Module{Imports: []api.Import{of(1, 1025), f(0)}}, api.ErrLimit}, {api.Module{Imports: []api.Import{f(0), of(1, 1025)}}, api.ErrIndex}, {api.Module{Imports: []api.Import{of(2, 17), f(0)}}, api.ErrLimit}, {api.Module{Imports: []api.Import{of(2, 16), f(0), of(2, 17)}}, api.ErrIndex}, {api.Module{Imports: []api.Import{of(2, 17)}}, api.ErrLimit}, {api.Module{Imports: []api.Import{of(1, 17)}}, api.OK},
		// What is imported does not change what types there are.
		{api.Module{Types: types, Imports: []api.Import{{Kind: 3, T: 0x7F}, f(2)}}, api.ErrIndex},
		{api.Module{Types: types, Funcs: []int{1}, Codes: make([]api.Code, 1)}, api.OK}, {api.Module{Types: types, Funcs: []int{2}, Codes: make([]api.Code, 1)}, api.ErrIndex}, {api.Module{Types: types, Imports: []api.Import{f(0)}, Funcs: []int{2}, Codes: make([]api.Code, 1)}, api.ErrIndex},
		// The tables stand ahead of the memories, both ahead of the globals.
		{api.Module{Tables: []api.Limits{l(1024)}, Mems: []api.Limits{l(16)}}, api.OK}, {api.Module{Tables: []api.Limits{l(1025)}, Mems: []api.Limits{l(16)}}, api.ErrLimit}, {api.Module{Tables: []api.Limits{l(17)}, Mems: []api.Limits{l(17)}}, api.ErrLimit}, {api.Module{Mems: []api.Limits{l(17)}, Globals: []api.Global{{T: 0x7F, Init: c64}}}, api.ErrLimit}, {api.Module{Tables: []api.Limits{l(1025)}, Funcs: []int{2}, Types: types, Codes: make([]api.Code, 1)}, api.ErrIndex},
		// Globals, exports, elems, functions of them, one behind the other.
		{api.Module{Globals: []api.Global{{T: 0x7F, Init: c64}, {T: 0x7F, Init: op(instr.Nop)}}}, api.ErrType}, {api.Module{Globals: []api.Global{{T: 0x7F, Init: op(instr.Nop)}, {T: 0x7F, Init: c64}}}, api.ErrConst},
		{api.Module{Mems: []api.Limits{l(0)}, Exports: []api.Export{{Kind: 2}, {Kind: 2}, {Kind: 1}}}, api.ErrDup}, {api.Module{Mems: []api.Limits{l(0)}, Exports: []api.Export{{Kind: 2}, {Kind: 1}, {Kind: 2}}}, api.ErrIndex},
		// Of an export the index is ahead of the name; of an elem the table, then the place, then the functions.
		{api.Module{Mems: []api.Limits{l(0)}, Exports: []api.Export{{Kind: 2}, {Kind: 2, I: 1}}}, api.ErrIndex},
		{api.Module{Elems: []api.Elem{{Off: c64}}}, api.ErrIndex}, {api.Module{Tables: []api.Limits{l(1)}, Elems: []api.Elem{{Off: c64, F: []int{0}}}}, api.ErrType}, {api.Module{Tables: []api.Limits{l(1)}, Elems: []api.Elem{{Off: c32, F: []int{0}}}}, api.ErrIndex}, {api.Module{Tables: []api.Limits{l(1)}, Elems: []api.Elem{{Off: c32}, {Off: c64}, {Table: 1, Off: c32}}}, api.ErrType},
		{api.Module{Datas: []api.Data{{Off: c64}}}, api.ErrIndex}, {api.Module{Mems: []api.Limits{l(1)}, Datas: []api.Data{{Off: c64}, {Mem: 1, Off: c32}}}, api.ErrType}, {api.Module{Mems: []api.Limits{l(1)}, Datas: []api.Data{{Off: c32}, {Mem: 1, Off: c64}}}, api.ErrIndex},
	} {
		checks(t, x.m, x.e, i)
	}
}

// constantOf is a module whose one global, elem or data has a constant of a type.
func constantOf(m api.Module, where, t int, in api.Instr) api.Module {
	switch where {
	case 0:
		grow(&m.Globals, api.Global{T: t, Init: in})
	case 1:
		grow(&m.Globals, api.Global{T: t, Mut: true, Init: in})
	case 2:
		grow(&m.Elems, api.Elem{Table: 1, Off: in})
	case 3:
		grow(&m.Datas, api.Data{Mem: 2, Off: in})
	}
	return m
}

// 7.2: constants of each kind and of each type, with imported globals that may be set, or not, and with own ones.
func TestConstants(t *testing.T) {
	for i, x := range []struct {
		in  api.Instr
		typ byte
		e   api.Errno
	}{
		{op(instr.I32Const, -1), 'i', 0}, {op(instr.I64Const, math.MinInt), 'l', 0}, {null, 'r', 0}, {op(instr.RefFunc, 0), 'r', 0}, {op(instr.RefFunc, 2), 'r', 0}, {op(instr.RefFunc, 5), 'r', 0}, {op(instr.RefFunc, 6), 0, api.ErrIndex}, {op(instr.RefFunc, 1<<32-1), 0, api.ErrIndex},
		{op(instr.GlobalGet, 0), 'i', 0}, {op(instr.GlobalGet, 1), 0, api.ErrConst}, {op(instr.GlobalGet, 2), 'r', 0}, {op(instr.GlobalGet, 3), 'l', 0}, {op(instr.GlobalGet, 4), 0, api.ErrIndex}, {op(instr.GlobalGet, 6), 0, api.ErrIndex}, {op(instr.GlobalGet, 7), 0, api.ErrIndex}, {op(instr.GlobalGet, 8), 0, api.ErrIndex}, {op(instr.GlobalGet, 9), 0, api.ErrIndex}, {op(instr.GlobalGet, 1<<32-1), 0, api.ErrIndex},
	} {
		for where := range 4 {
			for _, typ := range "ilr" {
				if where > 1 && typ != 'i' {
					continue
				}
				want := x.e
				if want == 0 && byte(typ) != x.typ {
					want = api.ErrType
				}
				checks(t, constantOf(whole(), where, types(string(typ))[0], x.in), want, i, where, string(typ))
			}
		}
	}
	// No other instruction is one, whatever it names.
	for _, o := range opcodes {
		if slices.Contains([]int{instr.I32Const, instr.I64Const, instr.RefNull, instr.RefFunc, instr.GlobalGet}, o) {
			continue
		}
		for where := range 4 {
			in := op(o)
			switch shape, _ := instr.Shape(o); shape {
			case instr.Types:
				in.A = 0x7F
			case instr.Block:
				in.A, in.L = api.BlockI32, code(c32)
			}
			checks(t, constantOf(whole(), where, 0x7F, in), api.ErrConst, o, where)
			if shape, _ := instr.Shape(o); shape == instr.Index || shape == instr.Indir {
				in.A = 1<<32 - 1
				checks(t, constantOf(whole(), where, 0x7F, in), api.ErrConst, o, where)
			}
		}
	}
	// With nothing imported no global is named, and with one function it is.
	checks(t, api.Module{Globals: []api.Global{{T: 0x7F, Init: c32}, {T: 0x7F, Init: op(instr.GlobalGet, 0)}}}, api.ErrIndex)
	checks(t, api.Module{Globals: []api.Global{{T: 0x70, Init: op(instr.RefFunc, 0)}}}, api.ErrIndex)
	checks(t, api.Module{Types: make([]api.FuncType, 1), Imports: []api.Import{{Kind: 0}}, Globals: []api.Global{{T: 0x70, Init: op(instr.RefFunc, 0)}}}, api.OK)
	// That it may be set is told ahead of its type.
	checks(t, constantOf(whole(), 0, 0x7F, op(instr.GlobalGet, 1)), api.ErrConst)
}

// opcodes are all that there are.
var opcodes = func() []int {
	var l []int
	for o := range 0x10000 {
		if _, e := instr.Shape(o); e == api.OK {
			l = append(l, o)
		}
	}
	return l
}()

// 7.2: exports at the last index of each kind and one beyond, and of one name.
func TestExports(t *testing.T) {
	for kind, many := range []int{6, 2, 3, 9} {
		for i := range many + 2 {
			want := api.OK
			if i >= many {
				want = api.ErrIndex
			}
			m := whole()
			grow(&m.Exports, api.Export{Name: "more", Kind: kind, I: i})
			checks(t, m, want, kind, i)
			m.Exports = []api.Export{{Name: "", Kind: kind, I: i}}
			checks(t, m, want, kind, i)
			checks(t, api.Module{Exports: []api.Export{{Kind: kind, I: i}}}, api.ErrIndex, kind, i)
		}
		m := whole()
		grow(&m.Exports, api.Export{Name: "more", Kind: kind, I: 1<<32 - 1})
		checks(t, m, api.ErrIndex)
	}
	for a := range 4 {
		for b := range 4 {
			for _, names := range [][3]string{{"x", "y", ""}, {"x", "x", "z"}, {"x", "y", "x"}, {"y", "x", "x"}, {"", "", "z"}, {"x", "X", "x "}, {"\u00e9", "e\u0301", "e"}} {
				m := whole()
				m.Exports = []api.Export{{Name: names[0], Kind: a}, {Name: names[1], Kind: b}, {Name: names[2], Kind: a, I: 1}}
				want := api.OK
				if names[0] == names[1] || names[1] == names[2] || names[0] == names[2] {
					want = api.ErrDup
				}
				checks(t, m, want, a, b, names)
			}
		}
	}
	m := whole()
	m.Exports = nil
	for i := range 1000 {
		grow(&m.Exports, api.Export{Name: fmt.Sprint(i)})
	}
	checks(t, m, api.OK)
	m.Exports[999].Name = "0"
	checks(t, m, api.ErrDup)
	m.Exports[999].Name = "998"
	checks(t, m, api.ErrDup)
}

// 7.2: the start at the last function and one beyond, with arguments, with results, with both.
func TestStart(t *testing.T) {
	m := whole()
	for start, want := range []api.Errno{api.OK, api.ErrType, api.ErrType, api.OK, api.ErrType, api.ErrType, api.ErrType, api.ErrIndex, api.ErrIndex} {
		m.Start = start
		checks(t, m, want, start)
	}
	m.Start = 1 << 32
	checks(t, m, api.ErrIndex)
	checks(t, api.Module{Start: 1}, api.ErrIndex)
	for sig, want := range map[string]api.Errno{">": api.OK, "i>": api.ErrType, ">i": api.ErrType, "r>r": api.ErrType, "l>": api.ErrType, ">ll": api.ErrType} {
		m := function(sig, code(op(instr.Unreachable)))
		m.Start = 1
		checks(t, m, want, sig)
		m.Start = 2
		checks(t, m, api.ErrIndex, sig)
		// It may be imported.
		checks(t, api.Module{Types: m.Types, Imports: []api.Import{{Kind: 0}}, Start: 1}, want, sig)
	}
}

// 7.2: elems and datas at the last table, memory and function, and one beyond.
func TestFills(t *testing.T) {
	for i := range 5 {
		want := []api.Errno{api.OK, api.OK, api.ErrIndex, api.ErrIndex, api.ErrIndex}[i]
		m := whole()
		grow(&m.Elems, api.Elem{Table: i, Off: c32})
		checks(t, m, want, i)
	}
	for i := range 8 {
		m := whole()
		want := api.OK
		if i > 5 {
			want = api.ErrIndex
		}
		for _, f := range [][]int{{i}, {0, i}, {i, 0}, {0, i, 5}, {i, i, i}} {
			m.Elems = []api.Elem{{Off: c32, F: f}}
			checks(t, m, want, i)
		}
	}
	for i := range 5 {
		m := whole()
		want := api.OK
		if i > 2 {
			want = api.ErrIndex
		}
		grow(&m.Datas, api.Data{Mem: i, Off: c32, B: "b"})
		checks(t, m, want, i)
	}
	for _, i := range []int{1 << 31, 1<<32 - 1} {
		m := whole()
		m.Elems = []api.Elem{{Table: i, Off: c32}}
		checks(t, m, api.ErrIndex)
		m.Elems = []api.Elem{{Off: c32, F: []int{i}}}
		checks(t, m, api.ErrIndex)
		m.Elems = nil
		m.Datas = []api.Data{{Mem: i, Off: c32}}
		checks(t, m, api.ErrIndex)
	}
	// What does not fit into a table, or a memory, is told when it is run.
	m := whole()
	m.Datas = []api.Data{{Mem: 2, Off: op(instr.I32Const, -1), B: "beyond"}}
	m.Elems = []api.Elem{{Table: 1, Off: op(instr.I32Const, 1<<31-1), F: []int{0, 1, 2}}}
	checks(t, m, api.OK)
}

// 7.2: locals at MaxLocals and one more, with the arguments among them.
func TestLocals(t *testing.T) {
	for _, taken := range []int{0, 1, 5, 32} {
		for d := -2; d <= 3; d++ {
			own := 256 - taken + d
			if own > 256 {
				continue
			}
			want := api.OK
			if d > 0 {
				want = api.ErrFull
			}
			sig := strings.Repeat("i", taken) + ">"
			m := plus(whole(), sig, code(op(instr.LocalGet, 255+min(d, 0)), op(instr.Drop)), slices.Repeat([]int{0x7E}, own)...)
			checks(t, m, want, taken, own)
			// It is told ahead of the code's own faults, behind those of the functions ahead.
			m = plus(whole(), sig, code(op(instr.LocalGet, 256+min(d, 0))), slices.Repeat([]int{0x7E}, own)...)
			if d <= 0 {
				want = api.ErrIndex
			}
			checks(t, m, want, taken, own)
			m = plus(plus(whole(), ">", code(op(instr.Drop))), sig, nil, slices.Repeat([]int{0x7E}, own)...)
			checks(t, m, api.ErrType, taken, own)
		}
	}
	// Each local has its type: the arguments first, then its own ones.
	m := plus(whole(), "ilr>", nil, 0x70, 0x7E, 0x7F, 0x7F, 0x70)
	for i, typ := range "ilrrliir" {
		for _, left := range "ilr" {
			want := api.OK
			if left != typ {
				want = api.ErrType
			}
			n := plus(m, "ilr>"+string(left), code(op(instr.LocalGet, i)), 0x70, 0x7E, 0x7F, 0x7F, 0x70)
			checks(t, n, want, i, string(left))
			n = plus(m, "ilr>", append(consts(string(left)), op(instr.LocalSet, i)), 0x70, 0x7E, 0x7F, 0x7F, 0x70)
			checks(t, n, want, i, string(left))
			n = plus(m, "ilr>"+string(left), append(consts(string(left)), op(instr.LocalTee, i)), 0x70, 0x7E, 0x7F, 0x7F, 0x70)
			checks(t, n, want, i, string(left))
		}
	}
	// One function's locals are not another one's.
	checks(t, plus(plus(whole(), "ii>", nil, 0x7F, 0x7F), ">", code(op(instr.LocalGet), op(instr.Drop))), api.ErrIndex)
}
