package store

import (
	"scarf/api"
	"scarf/ctype"
	"scarf/utf"
)

// layout is how values of a type lie. It is told once ahead of a value, as there may be very many values of what stands within.
type layout struct {
	t           api.Type // as ctype.Plain
	size, align int
	fields      []int    // where those of a record lie
	bytes, at   int      // of a variant: how many bytes its case has, and where what is in it lies
	in          []layout // of what is within
}

// lies tells how values of a type that may be lie.
func lies(t api.Type) layout {
	x := layout{t: ctype.Plain(t), size: ctype.Size(t), align: ctype.Align(t)}
	switch x.t.Kind {
	case api.TRecord:
		x.fields = ctype.Places(t)
	case api.TVariant:
		x.bytes, x.at = ctype.Case(t)
	}
	for _, y := range x.t.L {
		x.in = append(x.in, lies(y))
	}
	return x
}

// inside tells how what is in a variant's case lies: nothing, where there is nothing in it; false: there is no such case.
func (x *layout) inside(n int) ([]layout, bool) {
	if n >= len(x.in) {
		return nil, false
	}
	if x.in[n].t.Kind == 0 {
		return nil, true
	}
	return x.in[n : n+1], true
}

// Case tells the case of a variant, and what it has within, by a number; false: there is none.
func Case(t api.Type, n int) (api.Type, bool) {
	p := ctype.Plain(t)
	if p.Kind != api.TVariant || n < 0 || n >= len(p.L) {
		return api.Type{}, false
	}
	return p.L[n], true
}

// Simple tells the value that a number is; false: the type is one of others.
func Simple(t api.Type, n int) (api.Val, api.Trap, bool) {
	switch t.Kind {
	case api.TBool:
		if n != 0 {
			n = 1
		}
	case api.TChar:
		if !utf.Scalar(n) {
			return api.Val{}, api.TrapChar, true
		}
	case api.TFlags:
		n &= 1<<len(t.Names) - 1
	case api.TS8, api.TU8, api.TS16, api.TU16, api.TS32, api.TU32, api.TS64, api.TU64, api.TOwn, api.TBorrow:
	default:
		return api.Val{}, api.NoTrap, false
	}
	return api.Val{N: n}, api.NoTrap, true
}

// The opcodes of the instructions that load so many bits, with a sign (S) or without one (U), and that store them.
const (
	load8S  = 0x30
	load8U  = 0x31
	load16S = 0x32
	load16U = 0x33
	load32S = 0x34
	load32U = 0x35
	load64  = 0x29
	store8  = 0x3C
	store16 = 0x3D
	store32 = 0x3E
	store64 = 0x37
)

// loads tells the opcode that loads a number of so many bytes, with a sign, or without one.
func loads(size int, signed bool) int {
	with, without := load64, load64
	switch size {
	case 1:
		with, without = load8S, load8U
	case 2:
		with, without = load16S, load16U
	case 4:
		with, without = load32S, load32U
	}
	if signed {
		return with
	}
	return without
}

// stores tells the opcode that stores a number of so many bytes.
func stores(size int) int {
	switch size {
	case 1:
		return store8
	case 2:
		return store16
	case 4:
		return store32
	}
	return store64
}

// number tells the number of so many bytes at a place, which are within.
func (h *Heap) number(at, size int, signed bool) int {
	n, _ := h.m.Load(loads(size, signed), at)
	return n
}

// put lays the number of so many bytes at a place, where they are within.
func (h *Heap) put(at, size, n int) { h.m.Store(stores(size), at, n) }

// The numbers of a text, or of a list, at its place: where it lies, and behind that its length.
const (
	sizeOfNumber = 4
	lengthAt     = 4
)

// span tells where the text, or the list, at a place lies, and its length.
func (h *Heap) span(at int) (int, int) {
	return h.number(at, sizeOfNumber, false), h.number(at+lengthAt, sizeOfNumber, false)
}

// putSpan lays where a text, or a list, lies, and its length.
func (h *Heap) putSpan(at, place, n int) {
	h.put(at, sizeOfNumber, place)
	h.put(at+lengthAt, sizeOfNumber, n)
}
