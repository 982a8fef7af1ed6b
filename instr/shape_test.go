package instr

import (
	"math"
	"testing"

	"scarf/api"
)

// 5.1: the shapes and the opcodes by name have the numbers that the chapter gives them.
func TestNames(t *testing.T) {
	for i, shape := range []int{None, Block, Index, Labels, Indir, Types, Place, Space, Spaces, Const, Null} {
		if shape != i+1 {
			t.Errorf("shape %d: %d", i+1, shape)
		}
	}
	for _, x := range [][2]int{
		{Unreachable, 0x00}, {Nop, 0x01}, {OpBlock, 0x02}, {Loop, 0x03}, {If, 0x04}, {Else, 0x05}, {End, 0x0B}, {Br, 0x0C}, {BrIf, 0x0D}, {BrTable, 0x0E}, {Return, 0x0F},
		{Call, 0x10}, {CallIndirect, 0x11}, {Drop, 0x1A}, {Select, 0x1B}, {SelectT, 0x1C}, {LocalGet, 0x20}, {LocalSet, 0x21}, {LocalTee, 0x22}, {GlobalGet, 0x23}, {GlobalSet, 0x24},
		{TableGet, 0x25}, {TableSet, 0x26}, {MemorySize, 0x3F}, {MemoryGrow, 0x40}, {I32Const, 0x41}, {I64Const, 0x42}, {RefNull, 0xD0}, {RefIsNull, 0xD1}, {RefFunc, 0xD2},
		{MemoryCopy, 0xFC0A}, {MemoryFill, 0xFC0B}, {TableCopy, 0xFC0E}, {TableGrow, 0xFC0F}, {TableSize, 0xFC10}, {TableFill, 0xFC11},
	} {
		if x[0] != x[1] {
			t.Errorf("%x, want %x", x[0], x[1])
		}
	}
}

// 5.1: Shape of opcodes by name, and of some that there are not.
func TestShapeNamed(t *testing.T) {
	for _, x := range []struct {
		op, shape int
		e         api.Errno
	}{
		{Unreachable, None, api.OK}, {Nop, None, api.OK}, {Return, None, api.OK}, {Drop, None, api.OK}, {Select, None, api.OK}, {RefIsNull, None, api.OK}, {0x6A, None, api.OK}, {0xA7, None, api.OK},
		{OpBlock, Block, api.OK}, {Loop, Block, api.OK}, {If, Block, api.OK},
		{Br, Index, api.OK}, {BrIf, Index, api.OK}, {Call, Index, api.OK}, {LocalGet, Index, api.OK}, {LocalSet, Index, api.OK}, {LocalTee, Index, api.OK}, {GlobalGet, Index, api.OK}, {GlobalSet, Index, api.OK}, {RefFunc, Index, api.OK},
		{BrTable, Labels, api.OK}, {CallIndirect, Indir, api.OK}, {SelectT, Types, api.OK},
		{0x28, Place, api.OK}, {0x29, Place, api.OK}, {0x36, Place, api.OK}, {0x37, Place, api.OK}, {0x3E, Place, api.OK},
		{TableGet, Space, api.OK}, {TableSet, Space, api.OK}, {MemorySize, Space, api.OK}, {MemoryGrow, Space, api.OK}, {MemoryFill, Space, api.OK}, {TableGrow, Space, api.OK}, {TableSize, Space, api.OK}, {TableFill, Space, api.OK},
		{MemoryCopy, Spaces, api.OK}, {TableCopy, Spaces, api.OK}, {I32Const, Const, api.OK}, {I64Const, Const, api.OK}, {RefNull, Null, api.OK},
		{0x2A, 0, api.ErrFloat}, {0x43, 0, api.ErrFloat}, {0xBF, 0, api.ErrFloat}, {0xFC00, 0, api.ErrFloat}, {0xFC07, 0, api.ErrFloat}, {0xFD, 0, api.ErrSimd},
		{Else, 0, api.ErrOp}, {End, 0, api.ErrOp}, {0x06, 0, api.ErrOp}, {0x12, 0, api.ErrOp}, {0x27, 0, api.ErrOp}, {0xC5, 0, api.ErrOp}, {0xD3, 0, api.ErrOp}, {0xFB, 0, api.ErrOp}, {0xFC, 0, api.ErrOp}, {0xFE, 0, api.ErrOp}, {0xFF, 0, api.ErrOp},
		{0xFC08, 0, api.ErrOp}, {0xFC09, 0, api.ErrOp}, {0xFC0C, 0, api.ErrOp}, {0xFC0D, 0, api.ErrOp}, {0xFC12, 0, api.ErrOp}, {0xFBFF, 0, api.ErrOp}, {0xFD00, 0, api.ErrOp},
		{0x100, 0, api.ErrOp}, {-1, 0, api.ErrOp}, {math.MinInt, 0, api.ErrOp}, {math.MaxInt, 0, api.ErrOp},
	} {
		if shape, e := Shape(x.op); shape != x.shape || e != x.e {
			t.Errorf("Shape(%x): %d %d, want %d %d", x.op, shape, e, x.shape, x.e)
		}
	}
}

// 5.1: Shape of every opcode of a byte, of FC00 and more, of those between, below and far beyond; none is taken for one that it would be, were it cut.
func TestShapeAll(t *testing.T) {
	b := newBook()
	ask := func(op int) {
		ws, we := b.shape(op)
		if shape, e := Shape(op); shape != ws || e != we {
			t.Errorf("Shape(%x): %d %d, want %d %d", op, shape, e, ws, we)
		}
	}
	for op := -0x10200; op < 0x20200; op++ {
		ask(op)
	}
	for op := range b {
		for _, other := range []int{-op, ^op, op + 1<<31, op + 1<<32, op - 1<<32, op + 1<<40, op | math.MinInt, op << 8, op << 16, op << 32, 0xFC00 + op, 0xFC<<16 + op, 0xFC00 + 1<<32 + op} {
			ask(other)
		}
	}
	for _, op := range edges() {
		ask(op)
	}
}

// 5.1: Type of every byte, of numbers below 0 and great ones.
func TestType(t *testing.T) {
	for _, x := range []struct {
		c, typ int
		e      api.Errno
	}{
		{0x7F, api.I32, api.OK}, {0x7E, api.I64, api.OK}, {0x70, api.FuncRef, api.OK}, {0x7D, 0, api.ErrFloat}, {0x7C, 0, api.ErrFloat}, {0x7B, 0, api.ErrSimd},
		{0x7A, 0, api.ErrForm}, {0x71, 0, api.ErrForm}, {0x6F, 0, api.ErrForm}, {0x40, 0, api.ErrForm}, {0x00, 0, api.ErrForm}, {0x80, 0, api.ErrForm}, {0xFF, 0, api.ErrForm},
		{-1, 0, api.ErrForm}, {-2, 0, api.ErrForm}, {-16, 0, api.ErrForm}, {-64, 0, api.ErrForm}, {0x17F, 0, api.ErrForm}, {1<<32 + 0x7F, 0, api.ErrForm}, {math.MaxInt, 0, api.ErrForm}, {math.MinInt, 0, api.ErrForm},
	} {
		if typ, e := Type(x.c); typ != x.typ || e != x.e {
			t.Errorf("Type(%x): %x %d, want %x %d", x.c, typ, e, x.typ, x.e)
		}
	}
	ask := func(c int) {
		wt, we := plainType(c)
		if typ, e := Type(c); typ != wt || e != we {
			t.Errorf("Type(%x): %x %d, want %x %d", c, typ, e, wt, we)
		}
	}
	for c := -0x300; c < 0x300; c++ {
		ask(c)
		ask(c + 1<<32)
		ask(c << 8)
		ask(c | math.MinInt)
	}
	for _, c := range edges() {
		ask(c)
	}
}

// 5.1: TakeType of no bytes, and of each byte, with and without something behind.
func TestTakeType(t *testing.T) {
	if typ, rest, e := TakeType(""); typ != 0 || rest != "" || e != api.ErrForm {
		t.Errorf("TakeType of nothing: %x %x %d", typ, rest, e)
	}
	for c := range 256 {
		for _, tail := range []string{"", "\x00", "\x7f", "\x7d\x0b", "\x80zz"} {
			wt, we := plainType(c)
			want := tail
			if we != api.OK {
				want = ""
			}
			if typ, rest, e := TakeType(string([]byte{byte(c)}) + tail); typ != wt || rest != want || e != we {
				t.Errorf("TakeType(%02x%x): %x %x %d, want %x %x %d", c, tail, typ, rest, e, wt, want, we)
			}
		}
	}
}
