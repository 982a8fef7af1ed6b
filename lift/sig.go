package lift

import (
	"scarf/api"
	"scarf/ctype"
	"scarf/num"
	"scarf/store"
	"scarf/value"
)

// Wide tells whether a function's arguments lie in a memory.
func Wide(s api.Sig) bool { return len(ctype.Args(s)) > ctype.MaxFlat }

// Long tells whether what a function gives lies in a memory.
func Long(s api.Sig) bool { return len(ctype.Flat(s.R)) > 1 }

// UpArgs lifts a function's arguments.
func UpArgs(h *store.Heap, s api.Sig, core ...int) ([]api.Val, api.Trap) {
	if ctype.CheckSig(s) != api.OK {
		return nil, api.TrapHost
	}
	if !Wide(s) {
		return Lift(h, core, s.T...)
	}
	if h == nil || len(core) != 1 {
		return nil, api.TrapHost
	}
	v, trap := h.Load(tuple(s.T...), num.U32(core[0]))
	return v.L, trap
}

// DownArgs lowers a function's arguments.
func DownArgs(h *store.Heap, s api.Sig, l ...api.Val) ([]int, api.Trap) {
	if h == nil || value.Args(s, l...) != api.OK {
		return nil, api.TrapHost
	}
	if !Wide(s) {
		return Lower(h, l, s.T...)
	}
	t := tuple(s.T...)
	at, trap := h.Give(ctype.Align(t), ctype.Size(t)) // of a tuple that may not be these are 0, and there is no room for it
	if trap != api.NoTrap {
		return nil, trap
	}
	if trap := h.Store(t, api.Val{L: l}, at); trap != api.NoTrap {
		return nil, trap
	}
	return []int{at}, api.NoTrap
}

// UpResult lifts what a function gives.
func UpResult(h *store.Heap, s api.Sig, core ...int) (api.Val, api.Trap) {
	if h == nil || ctype.CheckSig(s) != api.OK || len(core) != min(1, len(ctype.Flat(s.R))) {
		return api.Val{}, api.TrapHost
	}
	if Long(s) {
		return h.Load(s.R, num.U32(core[0]))
	}
	if len(core) == 0 {
		return api.Val{}, api.NoTrap
	}
	l, trap := Lift(h, core, s.R)
	if trap != api.NoTrap {
		return api.Val{}, trap
	}
	return l[0], api.NoTrap
}

// DownResult lowers what a function gives: as core values, or at a place.
func DownResult(h *store.Heap, s api.Sig, v api.Val, at int) ([]int, api.Trap) {
	if h == nil || ctype.CheckSig(s) != api.OK {
		return nil, api.TrapHost
	}
	if Long(s) {
		return nil, h.Store(s.R, v, num.U32(at))
	}
	if s.R.Kind == 0 {
		return nil, api.NoTrap
	}
	return Lower(h, []api.Val{v}, s.R)
}
