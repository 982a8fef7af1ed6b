package store

import (
	"scarf/api"
	"scarf/ctype"
	"scarf/utf"
	"scarf/value"
)

// Load reads a value of a type at a place.
func (h *Heap) Load(t api.Type, at int) (api.Val, api.Trap) {
	if h == nil || ctype.Check(t) != api.OK {
		return api.Val{}, api.TrapHost
	}
	x := lies(t)
	if trap := h.part(at, x.align, x.size); trap != api.NoTrap {
		return api.Val{}, trap
	}
	return h.reader().value(&x, at)
}

// LoadText reads a text of which a place and a length are told.
func (h *Heap) LoadText(at, n int) ([]int, api.Trap) {
	if h == nil || at != low(at) || n != low(n) {
		return nil, api.TrapHost
	}
	return h.reader().text(at, n)
}

// LoadList reads a list of which a place and a length are told.
func (h *Heap) LoadList(t api.Type, at, n int) ([]api.Val, api.Trap) {
	if h == nil || at != low(at) || n != low(n) || ctype.Check(t) != api.OK {
		return nil, api.TrapHost
	}
	x := lies(t)
	return h.reader().list(&x, at, n)
}

// reader reads values, and counts how many parts there may be still.
type reader struct {
	*Heap
	left int
}

func (h *Heap) reader() *reader { return &reader{h, value.MaxParts} }

// count counts parts; false: these are too many.
func (r *reader) count(n int) bool {
	r.left -= n
	return r.left >= 0
}

// value reads a value at a place at which it is aligned, and within.
func (r *reader) value(x *layout, at int) (api.Val, api.Trap) {
	if !r.count(1) {
		return api.Val{}, api.TrapLength
	}
	switch x.t.Kind {
	case api.TString:
		s, trap := r.text(r.span(at))
		return api.Val{S: s}, trap
	case api.TList:
		place, n := r.span(at)
		l, trap := r.list(&x.in[0], place, n)
		return api.Val{L: l}, trap
	case api.TRecord:
		l, trap := r.each(len(x.in), func(i int) (*layout, int) { return &x.in[i], at + x.fields[i] })
		return api.Val{L: l}, trap
	case api.TVariant:
		return r.variant(x, at)
	}
	v, trap, _ := Simple(x.t, r.number(at, x.size, signed(x.t)))
	return v, trap
}

// signed tells whether numbers of less than 64 bits of a type have a sign.
func signed(t api.Type) bool {
	return t.Kind == api.TS8 || t.Kind == api.TS16 || t.Kind == api.TS32
}

// each reads as many values, of which it is told how and where each lies.
func (r *reader) each(n int, where func(i int) (*layout, int)) ([]api.Val, api.Trap) {
	var l []api.Val
	for i := range n {
		x, at := where(i)
		v, trap := r.value(x, at)
		if trap != api.NoTrap {
			return nil, trap
		}
		l = append(l, v)
	}
	return l, api.NoTrap
}

// variant reads a case, and what is in it.
func (r *reader) variant(x *layout, at int) (api.Val, api.Trap) {
	n := r.number(at, x.bytes, false)
	in, ok := x.inside(n)
	if !ok {
		return api.Val{}, api.TrapCase
	}
	l, trap := r.each(len(in), func(int) (*layout, int) { return &in[0], at + x.at })
	if trap != api.NoTrap {
		return api.Val{}, trap
	}
	return api.Val{N: n, L: l}, api.NoTrap
}

// list reads a list.
func (r *reader) list(x *layout, at, n int) ([]api.Val, api.Trap) {
	if n > value.MaxItems {
		return nil, api.TrapLength
	}
	if trap := r.part(at, x.align, n*x.size); trap != api.NoTrap {
		return nil, trap
	}
	return r.each(n, func(i int) (*layout, int) { return x, at + i*x.size })
}

// text reads a text.
func (r *reader) text(at, n int) ([]int, api.Trap) {
	form, units := r.form(n)
	if units > value.MaxItems {
		return nil, api.TrapLength
	}
	bytes := units * unit(form)
	if trap := r.part(at, r.textAlign(), bytes); trap != api.NoTrap {
		return nil, trap
	}
	s, _ := r.m.Read(at, bytes)
	l, ok := utf.Read(form, s)
	if !ok {
		return nil, api.TrapText
	}
	if !r.count(len(l)) {
		return nil, api.TrapLength
	}
	return l, api.NoTrap
}
