package module

import (
	"scarf/api"
	"scarf/instr"
	"scarf/leb"
	"scarf/utf"
)

// layer lays things one behind the other: what is laid, whether there was something that may not be laid, whether there were too many bytes.
type layer struct {
	laid          []byte
	refused, full bool
}

// Put lays a module.
func Put(m api.Module) (string, api.Errno) {
	l := &layer{}
	l.module(m)
	switch {
	case l.refused:
		return "", api.ErrArg
	case l.full:
		return "", api.ErrFull
	}
	return string(l.laid), api.OK
}

// module lays all sections.
func (l *layer) module(m api.Module) {
	l.put(Head)
	l.need(len(m.Codes) == len(m.Funcs))
	putSection(l, sectionTypes, m.Types, l.funcType)
	putSection(l, sectionImports, m.Imports, l.imported)
	putSection(l, sectionFuncs, m.Funcs, l.index)
	putSection(l, sectionTables, m.Tables, l.table)
	putSection(l, sectionMems, m.Mems, l.limits)
	putSection(l, sectionGlobals, m.Globals, l.global)
	putSection(l, sectionExports, m.Exports, l.export)
	l.start(m.Start)
	putSection(l, sectionElems, m.Elems, l.elem)
	putSection(l, sectionCodes, m.Codes, l.code)
	putSection(l, sectionDatas, m.Datas, l.data)
}

// putSection lays a section of a list, if the list has something.
func putSection[T any](l *layer, number int, things []T, one func(T)) {
	if len(things) == 0 {
		return
	}
	l.byte(number)
	l.asBytes(func() { putList(l, things, api.MaxList, one) })
}

// putList lays how many things there are, at most so many, and they.
func putList[T any](l *layer, things []T, most int, one func(T)) {
	l.need(len(things) <= most)
	l.put(leb.PutU(len(things)))
	for _, thing := range things {
		// What is refused is not laid, however much there is of it.
		if l.refused {
			return
		}
		one(thing)
	}
}

// need refuses the module, unless something holds.
func (l *layer) need(holds bool) {
	if !holds {
		l.refused = true
	}
}

// put lays bytes. Behind the first that are too many the others are only looked at: something among them may be refused.
func (l *layer) put(s string) {
	if len(s) > api.MaxModule-len(l.laid) {
		l.full = true
	}
	if !l.full {
		l.laid = append(l.laid, s...)
	}
}

// byte lays a single byte.
func (l *layer) byte(c int) { l.put(string([]byte{byte(c)})) }

// asBytes lays what a function lays as bytes, with their number ahead of them.
func (l *layer) asBytes(lay func()) {
	ahead := l.laid
	l.laid = nil
	lay()
	content := l.laid
	l.laid = ahead
	l.bytes(string(content))
}

// bytes lays how many bytes there are, and they.
func (l *layer) bytes(s string) {
	l.put(leb.PutU(len(s)))
	l.put(s)
}

// index lays an index, or a size.
func (l *layer) index(n int) {
	l.need(n >= 0 && n <= greatest)
	l.put(leb.PutU(n))
}

// name lays a name.
func (l *layer) name(s string) {
	l.need(len(s) <= api.MaxName && utf.Valid(s))
	l.bytes(s)
}

// kind lays the kind of what is imported, or exported.
func (l *layer) kind(kind int) {
	l.need(kind >= 0 && kind <= lastKind)
	l.byte(kind)
}

// yes lays a yes or no.
func (l *layer) yes(holds bool) {
	if holds {
		l.byte(1)
		return
	}
	l.byte(0)
}

// typ lays a type.
func (l *layer) typ(c int) {
	_, e := instr.Type(c)
	l.need(e == api.OK)
	l.byte(c)
}

// instrs lays instructions, and their end.
func (l *layer) instrs(list []api.Instr) {
	s, e := instr.Put(list)
	l.need(e == api.OK)
	l.put(s)
}

// constant lays a constant.
func (l *layer) constant(in api.Instr) { l.instrs([]api.Instr{in}) }

// limits lays limits.
func (l *layer) limits(lim api.Limits) {
	if lim.Max == -1 {
		l.byte(open)
		l.index(lim.Min)
		return
	}
	l.byte(closed)
	l.index(lim.Min)
	l.index(lim.Max)
}

// table lays a table's type.
func (l *layer) table(lim api.Limits) {
	l.byte(api.FuncRef)
	l.limits(lim)
}

// funcType lays a function's type.
func (l *layer) funcType(f api.FuncType) {
	l.byte(formFunc)
	putList(l, f.P, api.MaxArity, l.typ)
	putList(l, f.R, api.MaxArity, l.typ)
}

// imported lays what is imported.
func (l *layer) imported(in api.Import) {
	l.name(in.Mod)
	l.name(in.Name)
	l.kind(in.Kind)
	switch in.Kind {
	case api.KindFunc:
		l.index(in.T)
	case api.KindTable:
		l.table(in.Lim)
	case api.KindMem:
		l.limits(in.Lim)
	case api.KindGlobal:
		l.typ(in.T)
		l.yes(in.Mut)
	}
	l.need(onlyOwn(in))
}

// onlyOwn tells whether all fields are zero that are not of the import's kind.
func onlyOwn(in api.Import) bool {
	switch in.Kind {
	case api.KindFunc:
		return !in.Mut && in.Lim == api.Limits{}
	case api.KindGlobal:
		return in.Lim == api.Limits{}
	}
	return in.T == 0 && !in.Mut
}

// global lays a global.
func (l *layer) global(g api.Global) {
	l.typ(g.T)
	l.yes(g.Mut)
	l.constant(g.Init)
}

// export lays what is exported.
func (l *layer) export(out api.Export) {
	l.name(out.Name)
	l.kind(out.Kind)
	l.index(out.I)
}

// start lays the section of the function with which the module starts, if there is one. A number below 0 would not be read as it was.
func (l *layer) start(start int) {
	l.need(start >= 0)
	if start > 0 {
		l.byte(sectionStart)
		l.asBytes(func() { l.index(start - 1) })
	}
}

// where lays of which table, or memory, something is.
func (l *layer) where(n int) {
	if n == 0 {
		l.byte(first)
		return
	}
	l.byte(named)
	l.index(n)
}

// elem lays what fills a table.
func (l *layer) elem(e api.Elem) {
	l.where(e.Table)
	l.constant(e.Off)
	if e.Table != 0 {
		l.byte(formElem)
	}
	putList(l, e.F, api.MaxList, l.index)
}

// data lays what fills a memory.
func (l *layer) data(d api.Data) {
	l.where(d.Mem)
	l.constant(d.Off)
	l.bytes(d.B)
}

// code lays a function's code.
func (l *layer) code(c api.Code) {
	l.need(len(c.Locals) <= api.MaxLocals)
	l.asBytes(func() {
		putList(l, rows(c.Locals), api.MaxLocals, l.row)
		l.instrs(c.L)
	})
}

// row is so many locals of one type.
type row struct{ many, typ int }

// rows cuts locals into rows as long as they can be.
func rows(locals []int) []row {
	var l []row
	for i, typ := range locals {
		if i == 0 || typ != locals[i-1] {
			l = append(l, row{typ: typ})
		}
		l[len(l)-1].many++
	}
	return l
}

// row lays a row of locals.
func (l *layer) row(r row) {
	l.put(leb.PutU(r.many))
	l.typ(r.typ)
}
