package flat

import (
	"scarf/api"
	"scarf/instr"
	"scarf/mem"
	"scarf/num"
)

// many tells how many arguments and results a block has, by its type.
func (l *layout) many(a int) (taken, left int) {
	switch a {
	case api.BlockNone:
		return 0, 0
	case api.BlockI32, api.BlockI64, api.BlockRef:
		return 0, 1
	}
	f := l.space.Types[a]
	return len(f.P), len(f.R)
}

// more tells by how many numbers the stack grows, or, below 0, shrinks, with an instruction behind which something goes on.
func (l *layout) more(in api.Instr) int {
	shape, _ := instr.Shape(in.Op)
	switch shape {
	case instr.None:
		return plain(in.Op)
	case instr.Index:
		return l.indexed(in)
	case instr.Indir:
		taken, left := l.many(in.A)
		return left - taken - 1
	case instr.Types:
		return -2
	case instr.Place:
		if _, _, stores := mem.Width(in.Op); stores {
			return -2
		}
		return 0
	case instr.Space:
		return spaced(in.Op)
	case instr.Spaces:
		return -3
	}
	return 1 // Const, Null
}

// plain is of an instruction without numbers.
func plain(op int) int {
	switch op {
	case instr.Drop:
		return -1
	case instr.Select:
		return -2
	}
	if many, _, _ := num.Sig(op); many > 0 {
		return 1 - many
	}
	return 0
}

// indexed is of an instruction that names a label, a function, a local or a global.
func (l *layout) indexed(in api.Instr) int {
	switch in.Op {
	case instr.Call:
		taken, left := l.many(l.space.Funcs[in.A])
		return left - taken
	case instr.BrIf, instr.LocalSet, instr.GlobalSet:
		return -1
	case instr.LocalTee:
		return 0
	}
	return 1 // LocalGet, GlobalGet, RefFunc
}

// spaced is of an instruction that names one memory, or one table.
func spaced(op int) int {
	switch op {
	case instr.MemorySize, instr.TableSize:
		return 1
	case instr.TableGrow:
		return -1
	case instr.TableSet:
		return -2
	case instr.MemoryFill, instr.TableFill:
		return -3
	}
	return 0 // MemoryGrow, TableGet
}
