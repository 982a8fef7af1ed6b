package lift

import (
	"scarf/api"
	"scarf/ctype"
	"scarf/num"
	"scarf/store"
)

// lowerer makes core values of values, and puts them one behind the other.
type lowerer struct {
	h    *store.Heap
	core []int
}

// put puts core values.
func (x *lowerer) put(n ...int) { x.core = append(x.core, n...) }

// values puts values of types, one behind the other.
func (x *lowerer) values(l []api.Val, t ...api.Type) api.Trap {
	for i, v := range l {
		if trap := x.value(v, t[i]); trap != api.NoTrap {
			return trap
		}
	}
	return api.NoTrap
}

// value puts a value of a type.
func (x *lowerer) value(v api.Val, t api.Type) api.Trap {
	switch t.Kind {
	case api.TString:
		at, n, trap := x.h.Text(v.S...)
		x.put(at, n)
		return trap
	case api.TList:
		at, trap := x.h.List(t.L[0], v.L...)
		x.put(at, len(v.L))
		return trap
	case api.TRecord, api.TTuple:
		return x.values(v.L, t.L...)
	case api.TVariant, api.TEnum, api.TOption, api.TResult:
		return x.variant(v, t)
	case api.TS64, api.TU64:
		x.put(v.N)
	default:
		x.put(num.U32(v.N))
	}
	return api.NoTrap
}

// variant puts a case, and what is in it, and zeros in the place of what only others have.
func (x *lowerer) variant(v api.Val, t api.Type) api.Trap {
	end := len(x.core) + len(ctype.Flat(t))
	x.put(v.N)
	in, _ := store.Case(t, v.N)
	if trap := x.values(v.L, in); trap != api.NoTrap {
		return trap
	}
	for len(x.core) < end {
		x.put(0)
	}
	return api.NoTrap
}
