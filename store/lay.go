package store

import (
	"scarf/api"
	"scarf/utf"
	"scarf/value"
)

// Store lays a value of a type at a place.
func (h *Heap) Store(t api.Type, v api.Val, at int) api.Trap {
	if h == nil || value.Check(t, v) != api.OK {
		return api.TrapHost
	}
	x := lies(t)
	if trap := h.part(at, x.align, x.size); trap != api.NoTrap {
		return trap
	}
	return h.lay(&x, v, at)
}

// Text lays a text, and tells where, and its length.
func (h *Heap) Text(l ...int) (int, int, api.Trap) {
	if h == nil || value.Check(api.Type{Kind: api.TString}, api.Val{S: l}) != api.OK {
		return 0, 0, api.TrapHost
	}
	return h.layText(l...)
}

// List lays values of a type, and tells where.
func (h *Heap) List(t api.Type, l ...api.Val) (int, api.Trap) {
	list := api.Type{Kind: api.TList, L: []api.Type{t}}
	if h == nil || value.Check(list, api.Val{L: l}) != api.OK {
		return 0, api.TrapHost
	}
	x := lies(t)
	return h.layList(&x, l...)
}

// lay lays a value at a place at which it is aligned, and within.
func (h *Heap) lay(x *layout, v api.Val, at int) api.Trap {
	switch x.t.Kind {
	case api.TString:
		place, n, trap := h.layText(v.S...)
		return h.laySpan(at, place, n, trap)
	case api.TList:
		place, trap := h.layList(&x.in[0], v.L...)
		return h.laySpan(at, place, len(v.L), trap)
	case api.TRecord:
		return h.layEach(v.L, func(i int) (*layout, int) { return &x.in[i], at + x.fields[i] })
	case api.TVariant:
		h.put(at, x.bytes, v.N)
		return h.layEach(v.L, func(int) (*layout, int) { return &x.in[v.N], at + x.at })
	}
	h.put(at, x.size, v.N)
	return api.NoTrap
}

// laySpan lays where a text, or a list, lies, and its length, unless there was a trap.
func (h *Heap) laySpan(at, place, n int, trap api.Trap) api.Trap {
	if trap == api.NoTrap {
		h.putSpan(at, place, n)
	}
	return trap
}

// layEach lays values, of which it is told how and where each lies.
func (h *Heap) layEach(l []api.Val, where func(i int) (*layout, int)) api.Trap {
	for i, v := range l {
		x, at := where(i)
		if trap := h.lay(x, v, at); trap != api.NoTrap {
			return trap
		}
	}
	return api.NoTrap
}

// layList lays values where room is given for all of them.
func (h *Heap) layList(x *layout, l ...api.Val) (int, api.Trap) {
	at, trap := h.Give(x.align, len(l)*x.size)
	if trap != api.NoTrap {
		return 0, trap
	}
	if trap := h.layEach(l, func(i int) (*layout, int) { return x, at + i*x.size }); trap != api.NoTrap {
		return 0, trap
	}
	return at, api.NoTrap
}

// layText lays a text where room is given for it.
func (h *Heap) layText(l ...int) (int, int, api.Trap) {
	form := utf.Form(h.enc, l...)
	size, units := utf.Size(form, l...)
	if units > value.MaxItems {
		return 0, 0, api.TrapLength
	}
	at, trap := h.Give(h.textAlign(), size)
	if trap != api.NoTrap {
		return 0, 0, trap
	}
	s, _ := utf.Write(form, l...)
	h.m.Write(at, s)
	return at, h.length(form, units), api.NoTrap
}
