package exec

import (
	"slices"

	"scarf/api"
	"scarf/flat"
	"scarf/instr"
	"scarf/mem"
	"scarf/num"
	"scarf/valid"
)

// instance is what a module's indices name: its types, and of each kind of things their addresses.
type instance struct {
	types   []api.FuncType
	addrs   [api.KindGlobal + 1][]int
	exports []api.Export
	start   int
}

// extern is what an index of a kind names.
func (in *instance) extern(kind, i int) api.Extern {
	return api.Extern{Kind: kind, Addr: in.addrs[kind][i]}
}

// Add makes an instance of a module, with what it imports, and tells its number.
func (s *Store) Add(m api.Module, imports ...api.Extern) (int, api.Errno, api.Trap) {
	if s == nil || valid.Check(m) != api.OK {
		return 0, api.ErrArg, api.NoTrap
	}
	if !s.fit(m, imports) {
		return 0, api.ErrLink, api.NoTrap
	}
	in := s.build(m, imports)
	s.insts = append(s.insts, in)
	return len(s.insts) - 1, api.OK, s.fill(m, in)
}

// fit tells whether externs may stand for what a module imports.
func (s *Store) fit(m api.Module, imports []api.Extern) bool {
	if len(imports) != len(m.Imports) {
		return false
	}
	for i, x := range imports {
		if !s.fits(m, m.Imports[i], x) {
			return false
		}
	}
	return true
}

// fits tells whether an extern may stand for one thing that is imported.
func (s *Store) fits(m api.Module, in api.Import, x api.Extern) bool {
	switch in.Kind {
	case api.KindFunc:
		f, ok := find(x, in.Kind, s.funcs)
		return ok && same(f.t, m.Types[in.T])
	case api.KindTable:
		t, ok := find(x, in.Kind, s.tables)
		return ok && within(len(t.places), t.max, in.Lim)
	case api.KindMem:
		b, ok := find(x, in.Kind, s.mems)
		return ok && within(b.Pages(), b.Most(), in.Lim)
	}
	g, ok := find(x, in.Kind, s.globals)
	return ok && g.t == in.T && g.mut == in.Mut
}

// within tells whether a size, and a greatest size, are within an import's limits.
func within(size, most int, l api.Limits) bool {
	return size >= l.Min && (l.Max == noMax || most != noMax && most <= l.Max)
}

// build makes an instance: what is imported, and then its own things, at the next addresses.
func (s *Store) build(m api.Module, imports []api.Extern) *instance {
	in := &instance{types: valid.Of(m).Types, exports: slices.Clone(m.Exports), start: m.Start}
	for _, x := range imports {
		in.name(x.Kind, x.Addr)
	}
	for i, code := range flat.All(m) {
		in.name(api.KindFunc, len(s.funcs))
		s.funcs = append(s.funcs, &function{t: in.types[m.Funcs[i]], inst: in, code: code, locals: len(m.Codes[i].Locals)})
	}
	for _, l := range m.Tables {
		in.name(api.KindTable, len(s.tables))
		s.tables = append(s.tables, &table{places: make([]int, l.Min), max: l.Max})
	}
	for _, l := range m.Mems {
		in.name(api.KindMem, len(s.mems))
		b, _ := mem.New(l)
		s.mems = append(s.mems, b)
	}
	for _, g := range m.Globals {
		// A constant names functions, and what is imported: both are there by now.
		n := s.constant(in, g.Init)
		in.name(api.KindGlobal, len(s.globals))
		s.globals = append(s.globals, &global{t: g.T, mut: g.Mut, n: n})
	}
	return in
}

// name has the next index of a kind name an address.
func (in *instance) name(kind, addr int) { in.addrs[kind] = append(in.addrs[kind], addr) }

// constant is what a constant of an instance comes to.
func (s *Store) constant(in *instance, c api.Instr) int {
	switch c.Op {
	case instr.I32Const:
		return num.U32(c.A)
	case instr.I64Const:
		return c.A
	case instr.RefFunc:
		return in.ref(c.A)
	case instr.GlobalGet:
		return s.globals[in.addrs[api.KindGlobal][c.A]].n
	}
	return 0 // RefNull
}

// ref is a function, by its index, as a number.
func (in *instance) ref(f int) int { return in.addrs[api.KindFunc][f] + 1 }

// fill fills an instance's tables and memories, as far as there is no trap.
func (s *Store) fill(m api.Module, in *instance) api.Trap {
	for _, l := range m.Elems {
		var refs []int
		for _, f := range l.F {
			refs = append(refs, in.ref(f))
		}
		t := s.tables[in.addrs[api.KindTable][l.Table]]
		if trap := t.put(s.constant(in, l.Off), refs); trap != api.NoTrap {
			return trap
		}
	}
	for _, d := range m.Datas {
		b := s.mems[in.addrs[api.KindMem][d.Mem]]
		if trap := b.Write(s.constant(in, d.Off), d.B); trap != api.NoTrap {
			return trap
		}
	}
	return api.NoTrap
}
