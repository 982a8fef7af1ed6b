package exec

import (
	"scarf/api"
	"scarf/instr"
	"scarf/mem"
	"scarf/num"
)

// step does the next instruction of the innermost call.
func (r *Run) step() {
	c := r.inner()
	in := &c.f.code[c.at]
	c.at++
	switch in.Op {
	case api.FlatJump:
		r.jump(in.J[0])
	case api.FlatZero:
		if r.pop() == 0 {
			r.jump(in.J[0])
		}
	case api.FlatIf:
		if r.pop() != 0 {
			r.jump(in.J[0])
		}
	case api.FlatTable:
		r.jump(in.J[min(r.pop(), len(in.J)-1)])
	case api.FlatEnd:
		r.end()
	case instr.Unreachable:
		r.stop(api.TrapUnreachable)
	case instr.Call:
		r.begin(r.store.funcs[c.addr(api.KindFunc, in.A)])
	case instr.CallIndirect:
		r.indirect(c, in)
	default:
		r.plain(c, in)
	}
}

// addr is the address that an index names in a call's instance.
func (c *call) addr(kind, i int) int { return c.f.inst.addrs[kind][i] }

// table is the one that an index names in a call's instance, mem and global likewise.
func (r *Run) table(c *call, i int) *table { return r.store.tables[c.addr(api.KindTable, i)] }

func (r *Run) mem(c *call, i int) *mem.Mem { return r.store.mems[c.addr(api.KindMem, i)] }

func (r *Run) global(c *call, i int) *global { return r.store.globals[c.addr(api.KindGlobal, i)] }

// trapped stops the run, if there is a trap.
func (r *Run) trapped(t api.Trap) {
	if t != api.NoTrap {
		r.stop(t)
	}
}

// result puts a number on the stack, unless there is a trap.
func (r *Run) result(n int, t api.Trap) {
	r.push(n)
	r.trapped(t)
}

// indirect calls a function that is in a table.
func (r *Run) indirect(c *call, in *api.Flat) {
	ref, trap := r.table(c, in.M).get(r.pop())
	if trap != api.NoTrap {
		r.stop(trap)
		return
	}
	if ref == 0 {
		r.stop(api.TrapNull)
		return
	}
	f := r.store.funcs[ref-1]
	if !same(f.t, c.f.inst.types[in.A]) {
		r.stop(api.TrapSig)
		return
	}
	r.begin(f)
}

// plain does an instruction that neither jumps nor calls.
func (r *Run) plain(c *call, in *api.Flat) {
	switch in.Op {
	case instr.Drop:
		r.pop()
	case instr.Select, instr.SelectT:
		a, b, which := r.pop3()
		if which == 0 {
			a = b
		}
		r.push(a)
	case instr.LocalGet:
		r.push(r.stack[c.locals+in.A])
	case instr.LocalSet:
		r.stack[c.locals+in.A] = r.pop()
	case instr.LocalTee:
		r.stack[c.locals+in.A] = r.stack[len(r.stack)-1]
	case instr.GlobalGet:
		r.push(r.global(c, in.A).n)
	case instr.GlobalSet:
		r.global(c, in.A).n = r.pop()
	case instr.I32Const:
		r.push(num.U32(in.A))
	case instr.I64Const:
		r.push(in.A)
	case instr.RefNull:
		r.push(0)
	case instr.RefIsNull:
		r.push(isZero(r.pop()))
	case instr.RefFunc:
		r.push(c.f.inst.ref(in.A))
	default:
		r.number(c, in)
	}
}

// isZero is 1 for 0, and 0 for all else.
func isZero(n int) int {
	if n == 0 {
		return 1
	}
	return 0
}

// number does an instruction of numbers, or goes on to those of memories and tables.
func (r *Run) number(c *call, in *api.Flat) {
	switch many, _, _ := num.Sig(in.Op); many {
	case 1:
		n, _ := num.Un(in.Op, r.pop())
		r.push(n)
	case 2:
		b, a := r.pop(), r.pop()
		n, trap, _ := num.Bin(in.Op, a, b)
		r.result(n, trap)
	default:
		r.memory(c, in)
	}
}

// memory does an instruction of memories, or goes on to those of tables.
func (r *Run) memory(c *call, in *api.Flat) {
	switch in.Op {
	case instr.MemorySize:
		r.push(r.mem(c, in.M).Pages())
	case instr.MemoryGrow:
		r.push(num.U32(r.mem(c, in.M).Grow(r.pop())))
	case instr.MemoryFill:
		at, v, n := r.pop3()
		r.trapped(r.mem(c, in.M).Fill(at, v, n))
	case instr.MemoryCopy:
		at, place, n := r.pop3()
		r.trapped(mem.Copy(r.mem(c, in.M), at, r.mem(c, in.A), place, n))
	default:
		bytes, _, stores := mem.Width(in.Op)
		if bytes == 0 {
			r.places(c, in)
		} else if stores {
			v, at := r.pop(), r.pop()
			r.trapped(r.mem(c, in.M).Store(in.Op, at+in.A, v))
		} else {
			r.result(r.mem(c, in.M).Load(in.Op, r.pop()+in.A))
		}
	}
}

// places does an instruction of tables.
func (r *Run) places(c *call, in *api.Flat) {
	t := r.table(c, in.M)
	switch in.Op {
	case instr.TableSize:
		r.push(len(t.places))
	case instr.TableGrow:
		n, ref := r.pop(), r.pop()
		r.push(num.U32(t.grow(ref, n)))
	case instr.TableGet:
		r.result(t.get(r.pop()))
	case instr.TableSet:
		ref, at := r.pop(), r.pop()
		r.trapped(t.fill(at, ref, 1))
	case instr.TableFill:
		r.trapped(t.fill(r.pop3()))
	case instr.TableCopy:
		at, place, n := r.pop3()
		r.trapped(copyTable(t, at, r.table(c, in.A), place, n))
	}
}
