package valid

import (
	"slices"

	"scarf/api"
	"scarf/instr"
	"scarf/mem"
)

// checker looks at the things of a module that may be laid, and, within a function, at its instructions.
type checker struct {
	Space
	locals []int
	stack  []int   // types, the top one last
	blocks []block // the innermost one last
}

// first tells the first fault that one of the things has.
func first[T any](things []T, one func(T) api.Errno) api.Errno {
	for _, thing := range things {
		if e := one(thing); e != api.OK {
			return e
		}
	}
	return api.OK
}

// unless is an error, unless something holds.
func unless(holds bool, e api.Errno) api.Errno {
	if holds {
		return api.OK
	}
	return e
}

// module tells the first fault of all things.
func (c *checker) module(m api.Module) api.Errno {
	steps := []func() api.Errno{
		func() api.Errno { return first(m.Imports, c.imported) },
		func() api.Errno { return first(m.Funcs, c.typed) },
		func() api.Errno { return first(m.Tables, Table) },
		func() api.Errno { return first(m.Mems, mem.Check) },
		func() api.Errno { return first(m.Globals, c.global) },
		func() api.Errno { return c.exports(m.Exports) },
		func() api.Errno { return c.start(m.Start) },
		func() api.Errno { return first(m.Elems, c.elem) },
		func() api.Errno { return c.codes(m) },
		func() api.Errno { return first(m.Datas, c.data) },
	}
	return first(steps, func(step func() api.Errno) api.Errno { return step() })
}

// imported looks at what is imported.
func (c *checker) imported(in api.Import) api.Errno {
	switch in.Kind {
	case api.KindFunc:
		return c.typed(in.T)
	case api.KindTable:
		return Table(in.Lim)
	case api.KindMem:
		return mem.Check(in.Lim)
	}
	return api.OK
}

// typed looks at a function's type.
func (c *checker) typed(t int) api.Errno { return unless(among(t, len(c.Types)), api.ErrIndex) }

// global looks at an own global.
func (c *checker) global(g api.Global) api.Errno { return c.constant(g.Init, g.T) }

// constant looks at a constant, which has to be of a type.
func (c *checker) constant(in api.Instr, want int) api.Errno {
	t, e := c.constantType(in)
	if e != api.OK {
		return e
	}
	return unless(t == want, api.ErrType)
}

// constantType tells of which type a constant is.
func (c *checker) constantType(in api.Instr) (int, api.Errno) {
	switch in.Op {
	case instr.I32Const:
		return api.I32, api.OK
	case instr.I64Const:
		return api.I64, api.OK
	case instr.RefNull:
		return api.FuncRef, api.OK
	case instr.RefFunc:
		return api.FuncRef, unless(among(in.A, len(c.Funcs)), api.ErrIndex)
	case instr.GlobalGet:
		// The module's own globals are not there yet.
		if !among(in.A, c.Outer) {
			return 0, api.ErrIndex
		}
		g := c.Globals[in.A]
		return g.T, unless(!g.Mut, api.ErrConst)
	}
	return 0, api.ErrConst
}

// exports looks at what is exported.
func (c *checker) exports(l []api.Export) api.Errno {
	times := map[string]int{}
	return first(l, func(out api.Export) api.Errno {
		if !among(out.I, c.many(out.Kind)) {
			return api.ErrIndex
		}
		times[out.Name]++
		return unless(times[out.Name] == 1, api.ErrDup)
	})
}

// many tells how many things of a kind there are.
func (c *checker) many(kind int) int {
	switch kind {
	case api.KindFunc:
		return len(c.Funcs)
	case api.KindTable:
		return len(c.Tables)
	case api.KindMem:
		return len(c.Mems)
	case api.KindGlobal:
		return len(c.Globals)
	}
	return 0
}

// start looks at the function with which the module starts, if there is one.
func (c *checker) start(start int) api.Errno {
	if start == 0 {
		return api.OK
	}
	f, ok := c.Type(start - 1)
	if !ok {
		return api.ErrIndex
	}
	return unless(len(f.P) == 0 && len(f.R) == 0, api.ErrType)
}

// elem looks at what fills a table.
func (c *checker) elem(l api.Elem) api.Errno {
	if !among(l.Table, len(c.Tables)) {
		return api.ErrIndex
	}
	if e := c.constant(l.Off, api.I32); e != api.OK {
		return e
	}
	return first(l.F, func(f int) api.Errno { return unless(among(f, len(c.Funcs)), api.ErrIndex) })
}

// data looks at what fills a memory.
func (c *checker) data(d api.Data) api.Errno {
	if !among(d.Mem, len(c.Mems)) {
		return api.ErrIndex
	}
	return c.constant(d.Off, api.I32)
}

// codes looks at the code of each own function.
func (c *checker) codes(m api.Module) api.Errno {
	f := len(c.Funcs) - len(m.Codes)
	return first(m.Codes, func(code api.Code) api.Errno {
		t, _ := c.Type(f)
		f++
		return c.code(t, code)
	})
}

// code looks at a function's code.
func (c *checker) code(f api.FuncType, code api.Code) api.Errno {
	c.locals = slices.Concat(f.P, code.Locals)
	if len(c.locals) > api.MaxLocals {
		return api.ErrFull
	}
	return c.within(code.L, api.FuncType{R: f.R}, f.R)
}
