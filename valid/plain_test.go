package valid

import (
	"fmt"
	"slices"
	"strings"
	"testing"

	"scarf/api"
	"scarf/instr"
	"scarf/module"
)

// In these tests types are letters: i is I32, l is I64, r is FuncRef; ? stands for any, * for one of those that are there where nothing goes on.

// letters are types as letters.
func letters(types []int) string {
	s := ""
	for _, t := range types {
		s += string(map[int]rune{0x7F: 'i', 0x7E: 'l', 0x70: 'r'}[t])
	}
	return s
}

// types are letters as types.
func types(s string) []int {
	var l []int
	for _, c := range s {
		l = append(l, map[rune]int{'i': 0x7F, 'l': 0x7E, 'r': 0x70}[c])
	}
	return l
}

// functype is of what is taken and what is left, with a > between.
func functype(s string) api.FuncType {
	taken, left, _ := strings.Cut(s, ">")
	return api.FuncType{P: types(taken), R: types(left)}
}

// sigRow is opcodes, from the one to the other, with what they take and leave, how many bytes they load or store, and the kind of what M, and A, name.
type sigRow struct {
	from, to int
	sig      string
	bytes    int
	m, a     string
}

// sigRows are the instructions that always take and leave the same, as chapters 3, 4 and 7 list them, by numbers.
func sigRows() []sigRow {
	return []sigRow{
		{0x01, 0x01, ">", 0, "", ""},
		{0x45, 0x45, "i>i", 0, "", ""}, {0x46, 0x4F, "ii>i", 0, "", ""}, {0x50, 0x50, "l>i", 0, "", ""}, {0x51, 0x5A, "ll>i", 0, "", ""},
		{0x67, 0x69, "i>i", 0, "", ""}, {0x6A, 0x78, "ii>i", 0, "", ""}, {0x79, 0x7B, "l>l", 0, "", ""}, {0x7C, 0x8A, "ll>l", 0, "", ""},
		{0xA7, 0xA7, "l>i", 0, "", ""}, {0xAC, 0xAD, "i>l", 0, "", ""}, {0xC0, 0xC1, "i>i", 0, "", ""}, {0xC2, 0xC4, "l>l", 0, "", ""},
		{0x41, 0x41, ">i", 0, "", ""}, {0x42, 0x42, ">l", 0, "", ""}, {0xD0, 0xD0, ">r", 0, "", ""}, {0xD1, 0xD1, "r>i", 0, "", ""}, {0xD2, 0xD2, ">r", 0, "", "func"},
		{0x28, 0x28, "i>i", 4, "mem", ""}, {0x29, 0x29, "i>l", 8, "mem", ""}, {0x2C, 0x2D, "i>i", 1, "mem", ""}, {0x2E, 0x2F, "i>i", 2, "mem", ""}, {0x30, 0x31, "i>l", 1, "mem", ""}, {0x32, 0x33, "i>l", 2, "mem", ""}, {0x34, 0x35, "i>l", 4, "mem", ""},
		{0x36, 0x36, "ii>", 4, "mem", ""}, {0x37, 0x37, "il>", 8, "mem", ""}, {0x3A, 0x3A, "ii>", 1, "mem", ""}, {0x3B, 0x3B, "ii>", 2, "mem", ""}, {0x3C, 0x3C, "il>", 1, "mem", ""}, {0x3D, 0x3D, "il>", 2, "mem", ""}, {0x3E, 0x3E, "il>", 4, "mem", ""},
		{0x3F, 0x3F, ">i", 0, "mem", ""}, {0x40, 0x40, "i>i", 0, "mem", ""}, {0xFC0B, 0xFC0B, "iii>", 0, "mem", ""}, {0xFC0A, 0xFC0A, "iii>", 0, "mem", "mem"},
		{0x25, 0x25, "i>r", 0, "table", ""}, {0x26, 0x26, "ir>", 0, "table", ""}, {0xFC10, 0xFC10, ">i", 0, "table", ""}, {0xFC0F, 0xFC0F, "ri>i", 0, "table", ""}, {0xFC11, 0xFC11, "iri>", 0, "table", ""}, {0xFC0E, 0xFC0E, "iii>", 0, "table", "table"},
	}
}

// sigOf is the row of each opcode that has one.
var sigOf = func() map[int]sigRow {
	book := map[int]sigRow{}
	for _, r := range sigRows() {
		for op := r.from; op <= r.to; op++ {
			book[op] = r
		}
	}
	return book
}()

// frame is a block: the types of a jump to it, and how long the stack was below it.
type frame struct {
	label string
	base  int
}

// plain checks a module by the chapter's words, with a stack of letters; where nothing goes on there stand more * than could be taken. It panics with the first fault.
type plain struct {
	m             api.Module
	funcs         []int
	tables, mems  []api.Limits
	globals       []api.Global
	outer         int
	locals, stack string
	frames        []frame
}

func ask(holds bool, e api.Errno) {
	if !holds {
		panic(e)
	}
}

// plainSpace gathers what indices name.
func plainSpace(m api.Module) *plain {
	p := &plain{m: m}
	for i := range m.Imports {
		in := m.Imports[i]
		if in.Kind == 0 {
			p.funcs = append(p.funcs, in.T)
		}
		if in.Kind == 1 {
			p.tables = append(p.tables, in.Lim)
		}
		if in.Kind == 2 {
			p.mems = append(p.mems, in.Lim)
		}
		if in.Kind == 3 {
			p.globals = append(p.globals, api.Global{T: in.T, Mut: in.Mut})
			p.outer++
		}
	}
	p.funcs = slices.Concat(p.funcs, m.Funcs)
	p.tables = slices.Concat(p.tables, m.Tables)
	p.mems = slices.Concat(p.mems, m.Mems)
	p.globals = slices.Concat(p.globals, m.Globals)
	return p
}

// plainCheck is Check by the chapter's words.
func plainCheck(m api.Module) (e api.Errno) {
	if _, e := module.Put(m); e == api.ErrArg {
		return e
	}
	defer func() {
		if r := recover(); r != nil {
			e = r.(api.Errno)
		}
	}()
	plainSpace(m).module()
	return api.OK
}

func limited(l api.Limits, most int) {
	ask(l.Min >= 0 && l.Min <= most, api.ErrLimit)
	ask(l.Max == -1 || l.Max >= l.Min && l.Max <= most, api.ErrLimit)
}

func (p *plain) constant(in api.Instr, want int) {
	t := 0
	switch in.Op {
	case 0x41:
		t = 0x7F
	case 0x42:
		t = 0x7E
	case 0xD0:
		t = 0x70
	case 0xD2:
		ask(in.A < len(p.funcs), api.ErrIndex)
		t = 0x70
	case 0x23:
		ask(in.A < p.outer, api.ErrIndex)
		ask(!p.globals[in.A].Mut, api.ErrConst)
		t = p.globals[in.A].T
	default:
		panic(api.ErrConst)
	}
	ask(t == want, api.ErrType)
}

func (p *plain) module() {
	m := p.m
	for _, in := range m.Imports {
		ask(in.Kind != 0 || in.T < len(m.Types), api.ErrIndex)
		if in.Kind == 1 || in.Kind == 2 {
			limited(in.Lim, []int{0, 1024, 16}[in.Kind])
		}
	}
	for _, f := range m.Funcs {
		ask(f < len(m.Types), api.ErrIndex)
	}
	for _, l := range m.Tables {
		limited(l, 1024)
	}
	for _, l := range m.Mems {
		limited(l, 16)
	}
	for _, g := range m.Globals {
		p.constant(g.Init, g.T)
	}
	for i, x := range m.Exports {
		ask(x.I < []int{len(p.funcs), len(p.tables), len(p.mems), len(p.globals)}[x.Kind], api.ErrIndex)
		for _, y := range m.Exports[:i] {
			ask(x.Name != y.Name, api.ErrDup)
		}
	}
	if m.Start > 0 {
		ask(m.Start <= len(p.funcs), api.ErrIndex)
		f := m.Types[p.funcs[m.Start-1]]
		ask(len(f.P)+len(f.R) == 0, api.ErrType)
	}
	for _, e := range m.Elems {
		ask(e.Table < len(p.tables), api.ErrIndex)
		p.constant(e.Off, 0x7F)
		for _, f := range e.F {
			ask(f < len(p.funcs), api.ErrIndex)
		}
	}
	for i, c := range m.Codes {
		f := m.Types[m.Funcs[i]]
		ask(len(f.P)+len(c.Locals) <= 256, api.ErrFull)
		p.locals, p.stack, p.frames = letters(f.P)+letters(c.Locals), "", nil
		p.body(c.L, "", letters(f.R), letters(f.R))
	}
	for _, d := range m.Datas {
		ask(d.Mem < len(p.mems), api.ErrIndex)
		p.constant(d.Off, 0x7F)
	}
}

func (p *plain) base() int { return p.frames[len(p.frames)-1].base }

// pop takes one letter from the stack.
func (p *plain) pop(want byte) byte {
	top := len(p.stack) - 1
	ask(top >= p.base(), api.ErrType)
	t := p.stack[top]
	p.stack = p.stack[:top]
	ask(t == want || t == '?' || t == '*' || want == '?', api.ErrType)
	return t
}

func (p *plain) pops(want string) {
	for want != "" {
		p.pop(want[len(want)-1])
		want = want[:len(want)-1]
	}
}

func (p *plain) never() {
	// No code of these tests takes so many.
	p.stack = p.stack[:p.base()] + strings.Repeat("*", 400)
}

// body checks what stands within a block.
func (p *plain) body(l []api.Instr, taken, left, label string) {
	p.frames = append(p.frames, frame{label, len(p.stack)})
	p.stack += taken
	for _, in := range l {
		p.step(in)
	}
	p.end(left)
}

// end checks a block's end.
func (p *plain) end(left string) {
	p.pops(left)
	ask(strings.Trim(p.stack[p.base():], "*") == "", api.ErrType)
	p.stack = p.stack[:p.base()]
	p.frames = p.frames[:len(p.frames)-1]
}

func (p *plain) label(n int) string { return p.frames[len(p.frames)-1-n].label }

// many is how many things there are of a kind.
func (p *plain) many(kind string) int {
	return map[string]int{"func": len(p.funcs), "table": len(p.tables), "mem": len(p.mems), "global": len(p.globals), "type": len(p.m.Types), "local": len(p.locals), "label": len(p.frames), "": 1 << 62}[kind]
}

// step checks one instruction.
func (p *plain) step(in api.Instr) {
	if r, ok := sigOf[in.Op]; ok {
		ask(in.M < p.many(r.m) && in.A < p.many(r.a), api.ErrIndex)
		ask(r.bytes == 0 || in.B <= 3 && 1<<in.B <= r.bytes, api.ErrAlign)
		taken, left, _ := strings.Cut(r.sig, ">")
		p.pops(taken)
		p.stack += left
		return
	}
	switch in.Op {
	case instr.OpBlock, instr.Loop, instr.If:
		p.block(in)
	case instr.Br, instr.BrIf, instr.BrTable, instr.Return, instr.Unreachable:
		p.jump(in)
	case instr.LocalGet, instr.LocalSet, instr.LocalTee, instr.GlobalGet, instr.GlobalSet:
		p.variable(in)
	case instr.Call:
		ask(in.A < p.many("func"), api.ErrIndex)
		f := p.m.Types[p.funcs[in.A]]
		p.pops(letters(f.P))
		p.stack += letters(f.R)
	case instr.CallIndirect:
		ask(in.A < p.many("type") && in.M < p.many("table"), api.ErrIndex)
		p.pops(letters(p.m.Types[in.A].P) + "i")
		p.stack += letters(p.m.Types[in.A].R)
	case instr.Drop:
		p.pop('?')
	case instr.SelectT:
		t := letters([]int{in.A})
		p.pops(t + t + "i")
		p.stack += t
	case instr.Select:
		p.pop('i')
		a := p.pop('?')
		b := p.pop('?')
		ask(a != 'r' && b != 'r', api.ErrType)
		if a == '?' || a == '*' {
			a, b = b, a
		}
		ask(a == b || b == '?' || b == '*' || a == '*', api.ErrType)
		p.stack += strings.ReplaceAll(string(rune(a)), "*", "?")
	default:
		panic("no such instruction")
	}
}

func (p *plain) block(in api.Instr) {
	ask(in.A < len(p.m.Types), api.ErrIndex)
	taken, left := "", map[int]string{-1: "i", -2: "l", -16: "r"}[in.A]
	if in.A >= 0 {
		taken, left = letters(p.m.Types[in.A].P), letters(p.m.Types[in.A].R)
	}
	label := left
	if in.Op == instr.Loop {
		label = taken
	}
	if in.Op == instr.If {
		p.pop('i')
	}
	p.pops(taken)
	p.body(in.L, taken, left, label)
	if in.Op == instr.If {
		p.body(in.E, taken, left, label)
	}
	p.stack += left
}

func (p *plain) jump(in api.Instr) {
	switch in.Op {
	case instr.Return:
		p.pops(p.frames[0].label)
	case instr.Br:
		ask(in.A < p.many("label"), api.ErrIndex)
		p.pops(p.label(in.A))
	case instr.BrIf:
		ask(in.A < p.many("label"), api.ErrIndex)
		p.pops(p.label(in.A) + "i")
		p.stack += p.label(in.A)
		return
	case instr.BrTable:
		for _, n := range in.N {
			ask(n < p.many("label"), api.ErrIndex)
		}
		ask(in.A < p.many("label"), api.ErrIndex)
		p.pop('i')
		for _, n := range append(slices.Clone(in.N), in.A) {
			ask(len(p.label(n)) == len(p.label(in.A)), api.ErrType)
			stack := p.stack
			p.pops(p.label(n))
			p.stack = stack
		}
	}
	p.never()
}

func (p *plain) variable(in api.Instr) {
	t := ""
	if in.Op == instr.GlobalGet || in.Op == instr.GlobalSet {
		ask(in.A < p.many("global"), api.ErrIndex)
		ask(in.Op == instr.GlobalGet || p.globals[in.A].Mut, api.ErrConst)
		t = letters([]int{p.globals[in.A].T})
	} else {
		ask(in.A < p.many("local"), api.ErrIndex)
		t = p.locals[in.A : in.A+1]
	}
	if in.Op != instr.LocalGet && in.Op != instr.GlobalGet {
		p.pops(t)
	}
	if in.Op != instr.LocalSet && in.Op != instr.GlobalSet {
		p.stack += t
	}
}

// checks asks that Check answers what is wanted, and the chapter's words, too.
func checks(t *testing.T, m api.Module, want api.Errno, what ...any) {
	t.Helper()
	if e := Check(m); e != want {
		t.Errorf("Check: %d, want %d: %.300s: %.1000s", e, want, fmt.Sprint(what...), fmt.Sprintf("%+v", m))
	}
	if e := plainCheck(m); e != want {
		t.Errorf("the second checker: %d, want %d: %.300s: %.1000s", e, want, fmt.Sprint(what...), fmt.Sprintf("%+v", m))
	}
}

// op is an instruction with its A, B and M.
func op(o int, n ...int) api.Instr {
	n = append(n, 0, 0, 0)
	return api.Instr{Op: o, A: n[0], B: n[1], M: n[2]}
}

// code is instructions.
func code(l ...api.Instr) []api.Instr { return l }

// with is a block with what stands within it.
func with(o, a int, l ...api.Instr) api.Instr { return api.Instr{Op: o, A: a, L: l} }

// either is an If with an Else.
func either(a int, l, e []api.Instr) api.Instr { return api.Instr{Op: instr.If, A: a, L: l, E: e} }

// table is a BrTable.
func table(a int, n ...int) api.Instr { return api.Instr{Op: instr.BrTable, A: a, N: n} }

// c32, c64, null are constants.
var c32, c64, null = op(instr.I32Const, 7), op(instr.I64Const, 8), op(instr.RefNull)

// consts are constants of types.
func consts(s string) []api.Instr {
	var l []api.Instr
	for _, c := range s {
		l = append(l, map[rune]api.Instr{'i': c32, 'l': c64, 'r': null}[c])
	}
	return l
}

// function is a module with a function of a type (its type is 0), and further types.
func function(sig string, l []api.Instr, more ...string) api.Module {
	m := api.Module{Types: []api.FuncType{functype(sig)}, Funcs: []int{0}, Codes: []api.Code{{L: l}}}
	for _, s := range more {
		m.Types = append(m.Types, functype(s))
	}
	return m
}

// plus is a module with one more function.
func plus(m api.Module, sig string, l []api.Instr, locals ...int) api.Module {
	m.Funcs = append(slices.Clone(m.Funcs), len(m.Types))
	m.Types = append(slices.Clone(m.Types), functype(sig))
	m.Codes = append(slices.Clone(m.Codes), api.Code{Locals: locals, L: l})
	return m
}

// whole is a module with each kind of thing, imported and its own, that may be run. Each index of what it imports differs from that of the type.
func whole() api.Module {
	return api.Module{
		Types: []api.FuncType{functype(">"), functype("i>i"), functype("l>r"), functype("ilr>rli"), functype(">lr"), functype("rr>")},
		Imports: []api.Import{
			{Mod: "m", Name: "g", Kind: 3, T: 0x7F}, {Mod: "m", Name: "f", Kind: 0, T: 1}, {Mod: "m", Name: "t", Kind: 1, Lim: api.Limits{Min: 3, Max: -1}}, {Mod: "m", Name: "h", Kind: 3, T: 0x7E, Mut: true},
			{Mod: "m", Name: "m", Kind: 2, Lim: api.Limits{Min: 1, Max: 3}}, {Mod: "m", Name: "k", Kind: 0, T: 3}, {Mod: "m", Name: "r", Kind: 3, T: 0x70}, {Mod: "m", Name: "l", Kind: 3, T: 0x7E},
		},
		Funcs:   []int{0, 2, 4, 5},
		Tables:  []api.Limits{{Min: 10, Max: 200}},
		Mems:    []api.Limits{{Min: 2, Max: -1}, {Min: 0, Max: 0}},
		Globals: []api.Global{{T: 0x7F, Mut: true, Init: c32}, {T: 0x70, Mut: true, Init: op(instr.RefFunc, 5)}, {T: 0x7F, Init: op(instr.GlobalGet, 0)}, {T: 0x7E, Init: op(instr.GlobalGet, 3)}, {T: 0x7E, Mut: true, Init: c64}},
		Exports: []api.Export{{Name: "f", Kind: 0, I: 5}, {Name: "g", Kind: 3, I: 8}, {Name: "", Kind: 1, I: 1}, {Name: "m", Kind: 2, I: 2}},
		Start:   3,
		Elems:   []api.Elem{{Off: op(instr.GlobalGet, 0), F: []int{0, 5}}, {Table: 1, Off: c32}},
		Codes: []api.Code{
			{Locals: []int{0x7E}, L: code(op(instr.LocalGet), op(instr.Drop))},
			{L: code(op(instr.LocalGet), op(0xA7), op(instr.TableGet, 0, 0, 1))},
			{L: code(c64, null)},
			{L: code(with(instr.Loop, api.BlockNone, op(instr.LocalGet, 1), op(instr.RefIsNull), op(instr.BrIf)))},
		},
		Datas: []api.Data{{Off: c32, B: "bytes"}, {Mem: 2, Off: op(instr.GlobalGet, 0)}},
	}
}
