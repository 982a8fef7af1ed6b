package instr

import (
	"math"

	"scarf/api"
	"scarf/leb"
)

// greatest is the greatest index, and the greatest offset.
const greatest = 1<<32 - 1

// mostAlign is the greatest alignment; elsewhere stands beside it, if a memory's number is behind.
const (
	mostAlign = 63
	elsewhere = 64
)

// Count counts instructions, those within others, too; false: one of them may not be, or they are too many, or too deep.
func Count(l []api.Instr) (int, bool) { return count(l, 0, 0) }

// count goes on from n, within so many blocks. It ends at the first thing that may not be, so that lists within themselves end, too.
func count(l []api.Instr, n, blocks int) (int, bool) {
	for _, in := range l {
		n++
		shape, e := Shape(in.Op)
		if n > api.MaxInstrs || e != api.OK || !may(in, shape) {
			return 0, false
		}
		if shape != Block {
			continue
		}
		if blocks == api.MaxNest {
			return 0, false
		}
		ok := false
		if n, ok = count(in.L, n, blocks+1); !ok {
			return 0, false
		}
		if n, ok = count(in.E, n, blocks+1); !ok {
			return 0, false
		}
	}
	return n, true
}

// may tells whether each field is one of those that its shape has; what it has not is zero.
func may(in api.Instr, shape int) bool {
	return mayA(in, shape) && mayB(in.B, shape) && mayM(in.M, shape) && mayN(in.N, shape) &&
		(shape == Block || len(in.L) == 0) && (in.Op == If || len(in.E) == 0)
}

// mayA looks at A.
func mayA(in api.Instr, shape int) bool {
	switch shape {
	case Block:
		return blockType(in.A)
	case Index, Labels, Indir, Place, Spaces:
		return index(in.A)
	case Types:
		_, e := Type(in.A)
		return e == api.OK
	case Const:
		return in.Op == I64Const || within(in.A, math.MinInt32, math.MaxInt32)
	}
	return in.A == 0
}

// mayB looks at B.
func mayB(b, shape int) bool {
	if shape == Place {
		return within(b, 0, mostAlign)
	}
	return b == 0
}

// mayM looks at M.
func mayM(m, shape int) bool {
	switch shape {
	case Indir, Place, Space, Spaces:
		return index(m)
	}
	return m == 0
}

// mayN looks at N.
func mayN(n []int, shape int) bool {
	if shape != Labels {
		return len(n) == 0
	}
	if len(n) > api.MaxList {
		return false
	}
	for _, label := range n {
		if !index(label) {
			return false
		}
	}
	return true
}

// index tells whether a number may be an index, or an offset.
func index(n int) bool { return within(n, 0, greatest) }

// blockType tells whether a number may be a block's type.
func blockType(n int) bool {
	switch n {
	case api.BlockNone, api.BlockI32, api.BlockI64, api.BlockRef:
		return true
	}
	return index(n)
}

// Put lays instructions, and the end behind them.
func Put(l []api.Instr) (string, api.Errno) {
	if _, ok := Count(l); !ok {
		return "", api.ErrArg
	}
	return string(append(appendAll(nil, l), End)), api.OK
}

// appendAll lays instructions that may be, without an end.
func appendAll(b []byte, l []api.Instr) []byte {
	for _, in := range l {
		shape, _ := Shape(in.Op)
		b = append(b, opcode(in.Op)...)
		b = append(b, fields(in, shape)...)
		if shape != Block {
			continue
		}
		b = appendAll(b, in.L)
		if len(in.E) > 0 {
			b = appendAll(append(b, Else), in.E)
		}
		b = append(b, End)
	}
	return b
}

// opcode tells the bytes of an opcode.
func opcode(op int) string {
	if op < far<<8 {
		return one(op)
	}
	return one(far) + leb.PutU(op-far<<8)
}

// one is a single byte.
func one(c int) string { return string([]byte{byte(c)}) }

// fields tells the bytes of an instruction's numbers.
func fields(in api.Instr, shape int) string {
	switch shape {
	case Block, Const:
		return leb.PutS(in.A)
	case Index:
		return leb.PutU(in.A)
	case Labels:
		return leb.PutAll(in.N...) + leb.PutU(in.A)
	case Indir:
		return leb.PutU(in.A) + leb.PutU(in.M)
	case Types:
		return leb.PutU(1) + one(in.A)
	case Place:
		return place(in) + leb.PutU(in.A)
	case Space:
		return leb.PutU(in.M)
	case Spaces:
		return leb.PutU(in.M) + leb.PutU(in.A)
	case Null:
		return one(api.FuncRef)
	}
	return ""
}

// place tells the bytes of an alignment, and of the memory, if it is not the first one.
func place(in api.Instr) string {
	if in.M == 0 {
		return leb.PutU(in.B)
	}
	return leb.PutU(in.B+elsewhere) + leb.PutU(in.M)
}
