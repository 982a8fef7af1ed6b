package flat

import (
	"scarf/api"
	"scarf/instr"
	"scarf/valid"
)

// layout lays out a function's code, of which it knows already that it may be run.
type layout struct {
	space  valid.Space
	out    []api.Flat
	high   int     // how many numbers are on the stack
	blocks []block // the innermost one last
}

// block is one that an instruction stands in: how many numbers a jump to it keeps, above how many; whether it leads back to where the block begins; those jumps that wait till it is known where the block ends.
type block struct {
	keep, base int
	back       bool
	begins     int
	waiting    []place
}

// place is of a jump: an instruction's number, and the jump's among its jumps.
type place struct{ at, j int }

// put lays an instruction.
func (l *layout) put(in api.Flat) { l.out = append(l.out, in) }

// open begins a block.
func (l *layout) open(b block) {
	b.begins = len(l.out)
	l.blocks = append(l.blocks, b)
}

// end ends the innermost block, to whose end the jumps that waited for it lead; true: there are some.
func (l *layout) end() bool {
	b := l.label(0)
	for _, w := range b.waiting {
		l.out[w.at].J[w.j].To = len(l.out)
	}
	l.blocks = l.blocks[:len(l.blocks)-1]
	return len(b.waiting) > 0
}

// label is the block to which a label leads.
func (l *layout) label(n int) *block { return &l.blocks[len(l.blocks)-1-n] }

// jump lays an instruction that jumps to labels.
func (l *layout) jump(op int, labels ...int) {
	in := api.Flat{Op: op}
	for j, n := range labels {
		b := l.label(n)
		in.J = append(in.J, api.Jump{To: b.begins, Keep: b.keep, Base: b.base, Back: b.back})
		if !b.back {
			b.waiting = append(b.waiting, place{len(l.out), j})
		}
	}
	l.put(in)
}

// list lays instructions out, as far as something goes on; false: nothing goes on behind them.
func (l *layout) list(list []api.Instr) bool {
	for _, in := range list {
		if !l.instr(in) {
			return false
		}
	}
	return true
}

// instr lays an instruction out; false: nothing goes on behind it.
func (l *layout) instr(in api.Instr) bool {
	switch in.Op {
	case instr.Nop:
		return true
	case instr.OpBlock, instr.Loop, instr.If:
		return l.block(in)
	case instr.Br:
		l.jump(api.FlatJump, in.A)
		return false
	case instr.BrTable:
		// The list is not ours: nothing may be laid behind it where it stands.
		l.jump(api.FlatTable, append(in.N[:len(in.N):len(in.N)], in.A)...)
		return false
	case instr.Return:
		l.jump(api.FlatJump, len(l.blocks)-1)
		return false
	case instr.BrIf:
		l.jump(api.FlatIf, in.A)
	default:
		l.put(api.Flat{Op: in.Op, A: in.A, M: in.M})
	}
	l.high += l.more(in)
	return in.Op != instr.Unreachable
}

// block lays a block out; false: nothing goes on behind it.
func (l *layout) block(in api.Instr) bool {
	taken, left := l.many(in.A)
	if in.Op == instr.If {
		l.high--
	}
	base := l.high - taken
	b := block{keep: left, base: base}
	if in.Op == instr.Loop {
		b.keep, b.back = taken, true
	}
	l.open(b)
	goes := false
	if in.Op == instr.If {
		goes = l.parts(in, taken)
	} else {
		goes = l.list(in.L)
	}
	// The numbers on the stack are told anew: where nothing went on they were not counted to the end.
	l.high = base + left
	jumped := l.end()
	return goes || jumped
}

// parts lays out what stands within an If; false: nothing goes on behind its last part.
func (l *layout) parts(in api.Instr, taken int) bool {
	b, zero := l.label(0), place{at: len(l.out)}
	base := b.base
	l.put(api.Flat{Op: api.FlatZero, J: []api.Jump{{Keep: taken, Base: base}}})
	if len(in.E) == 0 {
		b.waiting = append(b.waiting, zero)
		return l.list(in.L)
	}
	if l.list(in.L) {
		l.jump(api.FlatJump, 0)
	}
	l.out[zero.at].J[zero.j].To = len(l.out)
	l.high = base + taken
	return l.list(in.E)
}
