package valid

import (
	"slices"

	"scarf/api"
	"scarf/instr"
	"scarf/mem"
	"scarf/num"
)

// goes is the type of what takes types and leaves others.
func goes(taken []int, left ...int) api.FuncType { return api.FuncType{P: taken, R: left} }

// from is types that are taken.
func from(types ...int) []int { return types }

// sig tells what an instruction takes and leaves, of one of which this does not hang on the stack.
func (c *checker) sig(in api.Instr) api.FuncType {
	shape, _ := instr.Shape(in.Op)
	switch shape {
	case instr.None:
		return c.plain(in.Op)
	case instr.Index:
		return c.indexed(in)
	case instr.Indir:
		f := c.Types[in.A]
		return goes(slices.Concat(f.P, from(api.I32)), f.R...)
	case instr.Types:
		return goes(from(in.A, in.A, api.I32), in.A)
	case instr.Place:
		return placed(in.Op)
	case instr.Space:
		return spaced(in.Op)
	case instr.Spaces:
		return goes(from(api.I32, api.I32, api.I32))
	case instr.Const:
		if in.Op == instr.I32Const {
			return goes(nil, api.I32)
		}
		return goes(nil, api.I64)
	case instr.Null:
		return goes(nil, api.FuncRef)
	}
	return goes(nil)
}

// plain is of an instruction without numbers.
func (c *checker) plain(op int) api.FuncType {
	switch op {
	case instr.Return:
		return goes(c.label(len(c.blocks) - 1))
	case instr.RefIsNull:
		return goes(from(api.FuncRef), api.I32)
	}
	if many, taken, left := num.Sig(op); many > 0 {
		return goes(slices.Repeat(from(taken), many), left)
	}
	return goes(nil)
}

// indexed is of an instruction that names a label, a function, a local or a global.
func (c *checker) indexed(in api.Instr) api.FuncType {
	switch in.Op {
	case instr.Br:
		return goes(c.label(in.A))
	case instr.BrIf:
		types := c.label(in.A)
		return goes(slices.Concat(types, from(api.I32)), types...)
	case instr.Call:
		f, _ := c.Type(in.A)
		return f
	case instr.LocalGet:
		return goes(nil, c.locals[in.A])
	case instr.LocalSet:
		return goes(from(c.locals[in.A]))
	case instr.LocalTee:
		return goes(from(c.locals[in.A]), c.locals[in.A])
	case instr.GlobalGet:
		return goes(nil, c.Globals[in.A].T)
	case instr.GlobalSet:
		return goes(from(c.Globals[in.A].T))
	}
	return goes(nil, api.FuncRef) // RefFunc
}

// placed is of an instruction that loads or stores.
func placed(op int) api.FuncType {
	_, typ, stores := mem.Width(op)
	if stores {
		return goes(from(api.I32, typ))
	}
	return goes(from(api.I32), typ)
}

// spaced is of an instruction that names one memory, or one table.
func spaced(op int) api.FuncType {
	switch op {
	case instr.MemorySize, instr.TableSize:
		return goes(nil, api.I32)
	case instr.MemoryGrow:
		return goes(from(api.I32), api.I32)
	case instr.MemoryFill:
		return goes(from(api.I32, api.I32, api.I32))
	case instr.TableGet:
		return goes(from(api.I32), api.FuncRef)
	case instr.TableSet:
		return goes(from(api.I32, api.FuncRef))
	case instr.TableGrow:
		return goes(from(api.FuncRef, api.I32), api.I32)
	}
	return goes(from(api.I32, api.FuncRef, api.I32)) // TableFill
}
