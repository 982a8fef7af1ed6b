package lift

import (
	"unicode/utf8"

	"scarf/api"
	"scarf/ctype"
	"scarf/store"
	"scarf/value"
)

// A second reading of the chapter: core values are split where a type's end, numbers are told by remainders, and a trap is a panic.
type plain struct{ h *store.Heap }

// caught tells the trap that stopped a call.
func caught(call func()) (trap api.Trap) {
	defer func() {
		if x := recover(); x != nil {
			trap = x.(api.Trap)
		}
	}()
	call()
	return api.NoTrap
}

func unless(ok bool, trap api.Trap) {
	if !ok {
		panic(trap)
	}
}

// cases tells what may be in a variant and the like; nil: it is none.
func cases(t api.Type) []api.Type {
	switch t.Kind {
	case api.TVariant, api.TResult:
		return t.L
	case api.TEnum:
		return make([]api.Type, len(t.Names))
	case api.TOption:
		return append([]api.Type{nothing}, t.L...)
	}
	return nil
}

// width tells how many core values a type has.
func width(t api.Type) int {
	n := 0
	switch t.Kind {
	case 0:
	case api.TString, api.TList:
		n = 2
	case api.TRecord, api.TTuple:
		for _, x := range t.L {
			n += width(x)
		}
	default:
		for _, x := range cases(t) {
			n = max(n, width(x))
		}
		n++
	}
	return n
}

func widths(l []api.Type) int { return width(tupled(l...)) }

// low tells the number of as many bits that a number's lowest bits are.
func low(n, bits int) int {
	if bits == 64 {
		return n
	}
	most := 1 << bits
	return (n%most + most) % most
}

// signed tells it with a sign.
func signed(n, bits int) int {
	n = low(n, bits)
	if n >= 1<<(bits-1) {
		n -= 1 << bits
	}
	return n
}

// parts tells of how many a value is made.
func parts(v api.Val) int {
	n := 1 + len(v.S)
	for _, x := range v.L {
		n += parts(x)
	}
	return n
}

func (p plain) up(t api.Type, core []int) api.Val {
	first := low(core[0], 32)
	switch t.Kind {
	case api.TBool:
		return val(min(1, first))
	case api.TS8, api.TS16, api.TS32:
		return val(signed(core[0], 8*ctype.Size(t)))
	case api.TU8, api.TU16, api.TU32, api.TS64, api.TU64, api.TOwn, api.TBorrow:
		return val(low(core[0], 8*ctype.Size(t)))
	case api.TFlags:
		return val(low(first, len(t.Names)))
	case api.TChar:
		unless(first <= 0x10FFFF && utf8.ValidRune(rune(first)), api.TrapChar)
		return val(first)
	case api.TString:
		l, trap := p.h.LoadText(first, low(core[1], 32))
		unless(trap == api.NoTrap, trap)
		return api.Val{S: l}
	case api.TList:
		l, trap := p.h.LoadList(t.L[0], first, low(core[1], 32))
		unless(trap == api.NoTrap, trap)
		return all(l...)
	case api.TRecord, api.TTuple:
		return all(p.ups(t.L, core)...)
	}
	l := cases(t)
	unless(first < len(l), api.TrapCase)
	if l[first].Kind == 0 {
		return val(first)
	}
	return sum(first, p.up(l[first], core[1:1+width(l[first])]))
}

func (p plain) ups(t []api.Type, core []int) []api.Val {
	var l []api.Val
	at := 0
	for _, x := range t {
		l = append(l, p.up(x, core[at:at+width(x)]))
		at += width(x)
	}
	return l
}

func (p plain) lift(core []int, t []api.Type) []api.Val {
	unless(p.h != nil, api.TrapHost)
	for _, x := range t {
		unless(ctype.Check(x) == api.OK, api.TrapHost)
	}
	unless(len(core) == widths(t), api.TrapHost)
	l := p.ups(t, core)
	if ctype.Check(tupled(t...)) == api.OK {
		unless(parts(all(l...)) <= value.MaxParts, api.TrapLength)
	}
	return l
}

func (p plain) down(t api.Type, v api.Val) []int {
	var core []int
	switch t.Kind {
	case api.TS64, api.TU64:
		return []int{v.N}
	case api.TString:
		at, n, trap := p.h.Text(v.S...)
		unless(trap == api.NoTrap, trap)
		return []int{at, n}
	case api.TList:
		at, trap := p.h.List(t.L[0], v.L...)
		unless(trap == api.NoTrap, trap)
		return []int{at, len(v.L)}
	case api.TRecord, api.TTuple:
		for i, x := range t.L {
			core = append(core, p.down(x, v.L[i])...)
		}
		return core
	}
	l := cases(t)
	if l == nil {
		return []int{low(v.N, 32)}
	}
	core = make([]int, width(t))
	core[0] = v.N
	if len(v.L) > 0 {
		copy(core[1:], p.down(l[v.N], v.L[0]))
	}
	return core
}

func (p plain) lower(l []api.Val, t []api.Type) []int {
	unless(p.h != nil && len(l) == len(t), api.TrapHost)
	for i, v := range l {
		unless(value.Check(t[i], v) == api.OK, api.TrapHost)
	}
	if len(t) == 0 {
		return nil
	}
	return p.down(tupled(t...), all(l...))
}

func (p plain) upArgs(s api.Sig, core []int) []api.Val {
	unless(ctype.CheckSig(s) == api.OK, api.TrapHost)
	if widths(s.T) <= 16 {
		return p.lift(core, s.T)
	}
	unless(p.h != nil && len(core) == 1, api.TrapHost)
	v, trap := p.h.Load(tupled(s.T...), low(core[0], 32))
	unless(trap == api.NoTrap, trap)
	return v.L
}

func (p plain) downArgs(s api.Sig, l []api.Val) []int {
	unless(p.h != nil && value.Args(s, l...) == api.OK, api.TrapHost)
	if widths(s.T) <= 16 {
		return p.lower(l, s.T)
	}
	x := tupled(s.T...)
	unless(ctype.Check(x) == api.OK, api.TrapHost)
	at, trap := p.h.Give(ctype.Align(x), ctype.Size(x))
	unless(trap == api.NoTrap, trap)
	trap = p.h.Store(x, all(l...), at)
	unless(trap == api.NoTrap, trap)
	return []int{at}
}

func (p plain) upResult(s api.Sig, core []int) api.Val {
	unless(p.h != nil && ctype.CheckSig(s) == api.OK, api.TrapHost)
	n := width(s.R)
	unless(len(core) == min(n, 1), api.TrapHost)
	if n == 0 {
		return api.Val{}
	}
	if n == 1 {
		return p.lift(core, []api.Type{s.R})[0]
	}
	v, trap := p.h.Load(s.R, low(core[0], 32))
	unless(trap == api.NoTrap, trap)
	return v
}

func (p plain) downResult(s api.Sig, v api.Val, at int) []int {
	unless(p.h != nil && ctype.CheckSig(s) == api.OK, api.TrapHost)
	switch width(s.R) {
	case 0:
		return nil
	case 1:
		return p.lower([]api.Val{v}, []api.Type{s.R})
	}
	trap := p.h.Store(s.R, v, low(at, 32))
	unless(trap == api.NoTrap, trap)
	return nil
}
