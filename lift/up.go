package lift

import (
	"scarf/api"
	"scarf/ctype"
	"scarf/num"
	"scarf/store"
)

// lifter makes values of core values, which it takes one behind the other.
type lifter struct {
	h    *store.Heap
	core []int // those that are left
}

// take takes the next core value.
func (x *lifter) take() int {
	n := x.core[0]
	x.core = x.core[1:]
	return n
}

// span takes where a text, or a list, lies, and its length.
func (x *lifter) span() (int, int) {
	at := num.U32(x.take())
	return at, num.U32(x.take())
}

// values makes values of types, one behind the other.
func (x *lifter) values(t ...api.Type) ([]api.Val, api.Trap) {
	var l []api.Val
	for _, y := range t {
		v, trap := x.value(y)
		if trap != api.NoTrap {
			return nil, trap
		}
		l = append(l, v)
	}
	return l, api.NoTrap
}

// value makes a value of a type.
func (x *lifter) value(t api.Type) (api.Val, api.Trap) {
	switch t.Kind {
	case api.TString:
		s, trap := x.h.LoadText(x.span())
		return api.Val{S: s}, trap
	case api.TList:
		at, n := x.span()
		l, trap := x.h.LoadList(t.L[0], at, n)
		return api.Val{L: l}, trap
	case api.TRecord, api.TTuple:
		l, trap := x.values(t.L...)
		return api.Val{L: l}, trap
	case api.TVariant, api.TEnum, api.TOption, api.TResult:
		return x.variant(t)
	}
	v, trap, _ := store.Simple(t, number(t, x.take()))
	return v, trap
}

// variant makes a case, and what is in it. It takes as many core values as the type has, though what is in the case may have fewer.
func (x *lifter) variant(t api.Type) (api.Val, api.Trap) {
	n := len(ctype.Flat(t))
	own := lifter{x.h, x.core[:n]}
	x.core = x.core[n:]
	which := num.U32(own.take())
	in, ok := store.Case(t, which)
	if !ok {
		return api.Val{}, api.TrapCase
	}
	if in.Kind == 0 {
		return api.Val{N: which}, api.NoTrap
	}
	l, trap := own.values(in)
	if trap != api.NoTrap {
		return api.Val{}, trap
	}
	return api.Val{N: which, L: l}, api.NoTrap
}

// number tells as many of a core value's lowest bits as numbers of a type have.
func number(t api.Type, n int) int {
	switch t.Kind {
	case api.TS8:
		return int(int8(n))
	case api.TU8:
		return int(uint8(n))
	case api.TS16:
		return int(int16(n))
	case api.TU16:
		return int(uint16(n))
	case api.TS32:
		return num.S32(n)
	case api.TS64, api.TU64:
		return n
	}
	return num.U32(n)
}
