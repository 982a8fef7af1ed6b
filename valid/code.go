package valid

import (
	"iter"

	"scarf/api"
	"scarf/instr"
	"scarf/mem"
)

// whatever stands on the stack, or is taken from it, for a type of any kind.
const whatever = 0

// block is one that an instruction stands in: the types that a jump to it takes, how many stand on the stack below its own ones, whether nothing goes on in it any more.
type block struct {
	label []int
	base  int
	never bool
}

// fromLast goes through types, from the last one on.
func fromLast(types []int) iter.Seq[int] {
	return func(yield func(int) bool) {
		for i := len(types) - 1; i >= 0; i-- {
			if !yield(types[i]) {
				return
			}
		}
	}
}

// fits tells whether a type that is on the stack may be taken as another one.
func fits(t, want int) bool { return t == want || t == whatever || want == whatever }

// innermost is the block in which the instruction stands.
func (c *checker) innermost() *block { return &c.blocks[len(c.blocks)-1] }

// label tells which types a jump to a label takes.
func (c *checker) label(n int) []int { return c.blocks[len(c.blocks)-1-n].label }

// has tells whether the innermost block's own types end with these.
func (c *checker) has(types ...int) bool {
	b, at := c.innermost(), len(c.stack)
	for t := range fromLast(types) {
		if at == b.base {
			return b.never
		}
		at--
		if !fits(c.stack[at], t) {
			return false
		}
	}
	return true
}

// take takes these types from the stack; false: it has not got them.
func (c *checker) take(types ...int) bool {
	if !c.has(types...) {
		return false
	}
	// Where nothing goes on there may stand fewer than are taken.
	c.stack = c.stack[:max(c.innermost().base, len(c.stack)-len(types))]
	return true
}

// leave leaves these types on the stack.
func (c *checker) leave(types ...int) { c.stack = append(c.stack, types...) }

// stop has nothing go on up to the end of the innermost block.
func (c *checker) stop() {
	b := c.innermost()
	b.never = true
	c.stack = c.stack[:b.base]
}

// within looks at what stands within a block, a jump to which takes the label's types.
func (c *checker) within(l []api.Instr, f api.FuncType, label []int) api.Errno {
	c.blocks = append(c.blocks, block{label: label, base: len(c.stack)})
	c.leave(f.P...)
	if e := first(l, c.instr); e != api.OK {
		return e
	}
	b := c.innermost()
	if !c.has(f.R...) || len(c.stack)-b.base > len(f.R) {
		return api.ErrType
	}
	c.stack = c.stack[:b.base]
	c.blocks = c.blocks[:len(c.blocks)-1]
	return api.OK
}

// instr looks at an instruction.
func (c *checker) instr(in api.Instr) api.Errno {
	if !c.named(in) {
		return api.ErrIndex
	}
	if bytes, _, _ := mem.Width(in.Op); bytes > 0 && bytes>>in.B == 0 {
		return api.ErrAlign
	}
	if in.Op == instr.GlobalSet && !c.Globals[in.A].Mut {
		return api.ErrConst
	}
	switch in.Op {
	case instr.OpBlock, instr.Loop, instr.If:
		return c.block(in)
	}
	return unless(c.types(in), api.ErrType)
}

// named tells whether each index of an instruction names something.
func (c *checker) named(in api.Instr) bool {
	shape, _ := instr.Shape(in.Op)
	switch shape {
	case instr.Block:
		// Those below 0 are types by themselves.
		return in.A < len(c.Types)
	case instr.Index:
		return among(in.A, c.indices(in.Op))
	case instr.Labels:
		e := first(in.N, func(n int) api.Errno { return unless(among(n, len(c.blocks)), api.ErrIndex) })
		return e == api.OK && among(in.A, len(c.blocks))
	case instr.Indir:
		return among(in.A, len(c.Types)) && among(in.M, len(c.Tables))
	case instr.Place:
		return among(in.M, len(c.Mems))
	case instr.Space:
		return among(in.M, c.indices(in.Op))
	case instr.Spaces:
		return among(in.M, c.indices(in.Op)) && among(in.A, c.indices(in.Op))
	}
	return true
}

// indices tells how many things there are of the kind that an instruction names.
func (c *checker) indices(op int) int {
	switch op {
	case instr.Br, instr.BrIf:
		return len(c.blocks)
	case instr.Call, instr.RefFunc:
		return len(c.Funcs)
	case instr.LocalGet, instr.LocalSet, instr.LocalTee:
		return len(c.locals)
	case instr.GlobalGet, instr.GlobalSet:
		return len(c.Globals)
	case instr.MemorySize, instr.MemoryGrow, instr.MemoryFill, instr.MemoryCopy:
		return len(c.Mems)
	}
	return len(c.Tables)
}

// block looks at a block, and at what stands within it.
func (c *checker) block(in api.Instr) api.Errno {
	f := c.blockType(in.A)
	if in.Op == instr.If && !c.take(api.I32) || !c.take(f.P...) {
		return api.ErrType
	}
	label := f.R
	if in.Op == instr.Loop {
		label = f.P
	}
	if e := c.within(in.L, f, label); e != api.OK {
		return e
	}
	if in.Op == instr.If {
		// Without an Else the arguments have to be the results, too.
		if e := c.within(in.E, f, label); e != api.OK {
			return e
		}
	}
	c.leave(f.R...)
	return api.OK
}

// blockType tells a block's arguments and results.
func (c *checker) blockType(a int) api.FuncType {
	switch a {
	case api.BlockNone:
		return api.FuncType{}
	case api.BlockI32:
		return api.FuncType{R: []int{api.I32}}
	case api.BlockI64:
		return api.FuncType{R: []int{api.I64}}
	case api.BlockRef:
		return api.FuncType{R: []int{api.FuncRef}}
	}
	return c.Types[a]
}

// types has an instruction that is no block take and leave its types; false: they do not fit.
func (c *checker) types(in api.Instr) bool {
	switch in.Op {
	case instr.Drop:
		return c.take(whatever)
	case instr.Select:
		return c.choice()
	case instr.BrTable:
		return c.jumps(in)
	}
	f := c.sig(in)
	if !c.take(f.P...) {
		return false
	}
	c.leave(f.R...)
	switch in.Op {
	case instr.Unreachable, instr.Br, instr.Return:
		c.stop()
	}
	return true
}

// choice has a Select take and leave its types: two of one kind, which the stack tells, unless both are of any.
func (c *checker) choice() bool {
	of32, of64 := c.has(api.I32, api.I32, api.I32), c.has(api.I64, api.I64, api.I32)
	if !of32 && !of64 {
		return false
	}
	c.take(whatever, whatever, whatever)
	switch {
	case of32 && of64:
		c.leave(whatever)
	case of32:
		c.leave(api.I32)
	default:
		c.leave(api.I64)
	}
	return true
}

// jumps has a BrTable take its types: those of each label stand there, where they stand at all.
func (c *checker) jumps(in api.Instr) bool {
	last := c.label(in.A)
	if !c.take(api.I32) || !c.has(last...) {
		return false
	}
	e := first(in.N, func(n int) api.Errno {
		types := c.label(n)
		return unless(len(types) == len(last) && c.has(types...), api.ErrType)
	})
	c.stop()
	return e == api.OK
}
