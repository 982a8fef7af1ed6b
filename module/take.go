package module

import (
	"slices"
	"strings"

	"scarf/api"
	"scarf/instr"
	"scarf/leb"
	"scarf/utf"
)

// taker takes a module from bytes: what is behind those that were taken, the first fault, the module, the place of the last section, how many datas there are to be (-1: nothing says it).
type taker struct {
	rest  string
	fault api.Errno
	m     api.Module
	last  int
	datas int
}

// Take reads a module.
func Take(s string) (api.Module, api.Errno) {
	if len(s) > api.MaxModule {
		return api.Module{}, api.ErrFull
	}
	t := &taker{rest: s, datas: -1}
	t.module()
	if t.fault != api.OK {
		return api.Module{}, t.fault
	}
	return t.m, api.OK
}

// module takes all bytes.
func (t *taker) module() {
	behind, ok := strings.CutPrefix(t.rest, Head)
	t.took(behind, api.OK)
	t.need(ok, api.ErrForm)
	for t.rest != "" {
		t.section()
	}
	t.need(len(t.m.Codes) == len(t.m.Funcs), api.ErrForm)
	t.need(t.datas == -1 || t.datas == len(t.m.Datas), api.ErrForm)
}

// section takes a section. Whether it may stand here is asked behind its content: a fault within that stands ahead.
func (t *taker) section() {
	number := t.byte()
	t.inBytes(func() { t.content(number) })
	if number != sectionCustom {
		t.need(place(number) > t.last, api.ErrForm)
		t.last = place(number)
	}
}

// place tells where a section stands among the others: the number of datas between elems and codes.
func place(number int) int {
	if number == sectionDataCount {
		return 2*sectionElems + 1
	}
	return 2 * number
}

// content takes what is in a section.
func (t *taker) content(number int) {
	switch number {
	case sectionCustom:
		t.name()
		t.took("", api.OK)
	case sectionTypes:
		t.m.Types = takeList(t, api.MaxList, t.funcType)
	case sectionImports:
		t.m.Imports = takeList(t, api.MaxList, t.imported)
	case sectionFuncs:
		t.m.Funcs = takeList(t, api.MaxList, t.number)
	case sectionTables:
		t.m.Tables = takeList(t, api.MaxList, t.table)
	case sectionMems:
		t.m.Mems = takeList(t, api.MaxList, t.limits)
	case sectionGlobals:
		t.m.Globals = takeList(t, api.MaxList, t.global)
	case sectionExports:
		t.m.Exports = takeList(t, api.MaxList, t.export)
	case sectionStart:
		t.m.Start = t.number() + 1
	case sectionElems:
		t.m.Elems = takeList(t, api.MaxList, t.elem)
	case sectionCodes:
		t.m.Codes = takeList(t, api.MaxList, t.code)
	case sectionDatas:
		t.m.Datas = takeList(t, api.MaxList, t.data)
	case sectionDataCount:
		t.datas = t.number()
	default:
		t.need(false, api.ErrForm)
	}
}

// takeList takes how many things there are, at most so many, and they.
func takeList[T any](t *taker, most int, one func() T) []T {
	many := t.number()
	t.need(many <= most, api.ErrFull)
	var l []T
	for range many {
		// Far more things may be told of than there are.
		if t.fault != api.OK {
			return nil
		}
		l = append(l, one())
	}
	return l
}

// took goes on with what is behind: nothing, if there is a fault. What is taken then has faults, too, but the first one stays.
func (t *taker) took(behind string, e api.Errno) {
	if t.fault == api.OK {
		t.rest, t.fault = behind, e
	}
}

// need has a fault, unless something holds.
func (t *taker) need(holds bool, e api.Errno) {
	if !holds {
		t.took("", e)
	}
}

// byte takes a single byte.
func (t *taker) byte() int {
	if t.rest == "" {
		t.took("", api.ErrForm)
		return 0
	}
	c := t.rest[0]
	t.took(t.rest[1:], api.OK)
	return int(c)
}

// upTo takes a byte that is at most so great.
func (t *taker) upTo(most int) int {
	c := t.byte()
	t.need(c <= most, api.ErrForm)
	return c
}

// only takes the one byte that may be there.
func (t *taker) only(c int) { t.need(t.byte() == c, api.ErrForm) }

// number takes a number from 0 on.
func (t *taker) number() int {
	n, behind, e := leb.TakeU(t.rest)
	t.took(behind, e)
	return n
}

// bytes takes bytes, with their number ahead of them.
func (t *taker) bytes() string {
	s, behind, e := leb.TakeBytes(t.rest)
	t.took(behind, e)
	return s
}

// inBytes takes bytes, and within them what a function takes: all of them.
func (t *taker) inBytes(take func()) {
	content := t.bytes()
	behind := t.rest
	t.took(content, api.OK)
	take()
	t.need(t.rest == "", api.ErrForm)
	t.took(behind, api.OK)
}

// name takes a name.
func (t *taker) name() string {
	s := t.bytes()
	t.need(utf.Valid(s), api.ErrForm)
	t.need(len(s) <= api.MaxName, api.ErrFull)
	return s
}

// kind takes the kind of what is imported, or exported.
func (t *taker) kind() int { return t.upTo(lastKind) }

// yes takes a yes or no.
func (t *taker) yes() bool { return t.upTo(1) == 1 }

// typ takes a type.
func (t *taker) typ() int {
	typ, behind, e := instr.TakeType(t.rest)
	t.took(behind, e)
	return typ
}

// instrs takes instructions, and their end.
func (t *taker) instrs() []api.Instr {
	l, behind, e := instr.Take(t.rest)
	t.took(behind, e)
	return l
}

// constant takes a constant.
func (t *taker) constant() api.Instr {
	l := t.instrs()
	t.need(len(l) == 1, api.ErrConst)
	if t.fault != api.OK {
		return api.Instr{}
	}
	return l[0]
}

// limits takes limits.
func (t *taker) limits() api.Limits {
	end := t.upTo(closed)
	lim := api.Limits{Min: t.number(), Max: -1}
	if end == closed {
		lim.Max = t.number()
	}
	return lim
}

// table takes a table's type.
func (t *taker) table() api.Limits {
	t.only(api.FuncRef)
	return t.limits()
}

// funcType takes a function's type.
func (t *taker) funcType() api.FuncType {
	t.only(formFunc)
	f := api.FuncType{}
	f.P = takeList(t, api.MaxArity, t.typ)
	f.R = takeList(t, api.MaxArity, t.typ)
	return f
}

// imported takes what is imported.
func (t *taker) imported() api.Import {
	in := api.Import{}
	in.Mod = t.name()
	in.Name = t.name()
	in.Kind = t.kind()
	switch in.Kind {
	case api.KindFunc:
		in.T = t.number()
	case api.KindTable:
		in.Lim = t.table()
	case api.KindMem:
		in.Lim = t.limits()
	case api.KindGlobal:
		in.T = t.typ()
		in.Mut = t.yes()
	}
	return in
}

// global takes a global.
func (t *taker) global() api.Global {
	g := api.Global{}
	g.T = t.typ()
	g.Mut = t.yes()
	g.Init = t.constant()
	return g
}

// export takes what is exported.
func (t *taker) export() api.Export {
	out := api.Export{}
	out.Name = t.name()
	out.Kind = t.kind()
	out.I = t.number()
	return out
}

// where takes of which table, or memory, something is, and whether it is named, as 0 may be, too. Unlike elsewhere, what tells of it may have more bytes than it needs.
func (t *taker) where() (int, bool) {
	switch t.number() {
	case first:
		return 0, false
	case named:
		return t.number(), true
	}
	t.need(false, api.ErrForm)
	return 0, false
}

// elem takes what fills a table.
func (t *taker) elem() api.Elem {
	e := api.Elem{}
	table, told := t.where()
	e.Table = table
	e.Off = t.constant()
	if told {
		t.need(t.number() == formElem, api.ErrForm)
	}
	e.F = takeList(t, api.MaxList, t.number)
	return e
}

// data takes what fills a memory.
func (t *taker) data() api.Data {
	d := api.Data{}
	d.Mem, _ = t.where()
	d.Off = t.constant()
	d.B = t.bytes()
	return d
}

// code takes a function's code.
func (t *taker) code() api.Code {
	c := api.Code{}
	t.inBytes(func() {
		c.Locals = t.locals()
		c.L = t.instrs()
	})
	return c
}

// locals takes rows of locals. It counts the locals, not the rows: any number of these may be empty.
func (t *taker) locals() []int {
	var l []int
	for range t.number() {
		many := t.number()
		typ := t.typ()
		t.need(many <= api.MaxLocals-len(l), api.ErrFull)
		if t.fault != api.OK {
			return nil
		}
		l = append(l, slices.Repeat([]int{typ}, many)...)
	}
	return l
}
