package instr

import (
	"scarf/api"
	"scarf/leb"
)

// A block's type whose first byte is from firstSign to lastSign is that byte: a number below 0 (of one byte) is it less pastSign.
const (
	firstSign = 0x40
	lastSign  = 0x7F
	pastSign  = 0x80
)

// taker takes instructions from bytes: what is behind those that were taken, how many instructions there were, the first fault.
type taker struct {
	rest  string
	count int
	fault api.Errno
}

// Take takes the instructions with which bytes begin, up to their end.
func Take(s string) ([]api.Instr, string, api.Errno) {
	t := &taker{rest: s}
	l, last := t.list(0)
	t.closed(last)
	if t.fault != api.OK {
		return nil, "", t.fault
	}
	return l, t.rest, api.OK
}

// took goes on with what is behind: nothing, if there is a fault. What is taken then has faults, too, but the first one stays.
func (t *taker) took(behind string, e api.Errno) {
	if t.fault == api.OK {
		t.rest, t.fault = behind, e
	}
}

// need has a fault, unless something holds.
func (t *taker) need(holds bool, e api.Errno) {
	if !holds {
		t.took("", e)
	}
}

// closed asks for an End, where no Else may stand.
func (t *taker) closed(last int) { t.need(last == End, api.ErrForm) }

// list takes instructions within so many blocks, and tells the opcode behind them: End, or Else.
func (t *taker) list(blocks int) ([]api.Instr, int) {
	var l []api.Instr
	for {
		in := api.Instr{}
		t.opcode(&in.Op)
		if t.fault != api.OK || in.Op == End || in.Op == Else {
			return l, in.Op
		}
		t.instr(&in, blocks)
		l = append(l, in)
	}
}

// instr takes what is behind an opcode.
func (t *taker) instr(in *api.Instr, blocks int) {
	shape, e := Shape(in.Op)
	t.need(e == api.OK, e)
	t.fields(in, shape)
	t.count++
	t.need(t.count <= api.MaxInstrs, api.ErrFull)
	if shape == Block {
		t.need(blocks < api.MaxNest, api.ErrFull)
		t.block(in, blocks+1)
	}
}

// block takes what stands within a block, and its end.
func (t *taker) block(in *api.Instr, blocks int) {
	last := End
	in.L, last = t.list(blocks)
	if in.Op == If && last == Else {
		in.E, last = t.list(blocks)
	}
	t.closed(last)
}

// fields takes an instruction's numbers.
func (t *taker) fields(in *api.Instr, shape int) {
	switch shape {
	case Block:
		t.blockType(&in.A)
	case Index:
		t.number(&in.A)
	case Labels:
		t.labels(&in.N)
		t.number(&in.A)
	case Indir:
		t.number(&in.A)
		t.number(&in.M)
	case Types:
		t.types(&in.A)
	case Place:
		t.place(in)
	case Space:
		t.number(&in.M)
	case Spaces:
		t.number(&in.M)
		t.number(&in.A)
	case Const:
		t.constant(in)
	case Null:
		t.null()
	}
}

// opcode takes an opcode, of one byte or FC00 and more.
func (t *taker) opcode(op *int) {
	if t.rest == "" {
		t.took("", api.ErrForm)
		return
	}
	*op = int(t.rest[0])
	t.took(t.rest[1:], api.OK)
	if *op == far {
		t.number(op)
		*op += far << 8
	}
}

// number takes a number from 0 on.
func (t *taker) number(to *int) {
	n, behind, e := leb.TakeU(t.rest)
	*to = n
	t.took(behind, e)
}

// signed takes a number of so many bits.
func (t *taker) signed(to *int, bits int) {
	n, behind, e := leb.TakeS(t.rest, bits)
	*to = n
	t.took(behind, e)
}

// labels takes a table's labels.
func (t *taker) labels(to *[]int) {
	l, behind, e := leb.TakeAll(t.rest, api.MaxList)
	*to = l
	t.took(behind, e)
}

// typ takes a type.
func (t *taker) typ(to *int) {
	typ, behind, e := TakeType(t.rest)
	*to = typ
	t.took(behind, e)
}

// types takes how many types there are, and the one.
func (t *taker) types(to *int) {
	many := 0
	t.number(&many)
	t.need(many == 1, api.ErrForm)
	t.typ(to)
}

// null takes the type of references.
func (t *taker) null() {
	typ := 0
	t.typ(&typ)
	t.need(typ == api.FuncRef, api.ErrForm)
}

// place takes an alignment, a memory and an offset.
func (t *taker) place(in *api.Instr) {
	t.number(&in.B)
	t.need(in.B < 2*elsewhere, api.ErrForm)
	if in.B >= elsewhere {
		in.B -= elsewhere
		t.number(&in.M)
	}
	t.number(&in.A)
}

// constant takes a number of as many bits as the instruction says.
func (t *taker) constant(in *api.Instr) {
	if in.Op == I32Const {
		t.signed(&in.A, 32)
		return
	}
	t.signed(&in.A, 64)
}

// blockType takes a block's type: nothing, a type, or an index.
func (t *taker) blockType(to *int) {
	if t.rest == "" || t.rest[0] < firstSign || t.rest[0] > lastSign {
		t.signed(to, 33)
		t.need(*to >= 0, api.ErrForm)
		return
	}
	*to = int(t.rest[0]) - pastSign
	if *to == api.BlockNone {
		t.took(t.rest[1:], api.OK)
		return
	}
	t.typ(new(int))
}
