package lift

import (
	"math/rand"
	"slices"
	"testing"

	"scarf/api"
	"scarf/ctype"
	"scarf/mem"
	"scarf/value"
)

// maker makes types, values and core values by chance.
type maker struct{ *rand.Rand }

func made(seed int) *maker { return &maker{rand.New(rand.NewSource(int64(seed)))} }

func one[T any](m *maker, l ...T) T { return l[m.Intn(len(l))] }

// some makes a number of things, most often a small one.
func (m *maker) some(most int) int {
	if m.Intn(60) == 0 {
		return m.Intn(most + 1)
	}
	return m.Intn(4)
}

// many makes as many of something.
func many[T any](n int, of func() T) []T {
	var l []T
	for range n {
		l = append(l, of())
	}
	return l
}

// typ makes a type in which as many stand within one another, at most.
func (m *maker) typ(left int) api.Type {
	kind := 1 + m.Intn(21)
	if left <= 1 {
		kind = one(m, 1, 2, 3, 4, 5, 6, 7, 8, 9, 10, 11, 11, 16, 19, 20, 21)
	}
	inner := func() api.Type { return m.typ(left - 1 - m.Intn(2)) }
	orNone := func() api.Type {
		if m.Intn(3) == 0 {
			return nothing
		}
		return inner()
	}
	switch kind {
	case api.TList:
		return list(inner())
	case api.TOption:
		return option(inner())
	case api.TTuple:
		return tupled(many(1+m.some(8), inner)...)
	case api.TRecord:
		return record(many(1+m.some(8), inner)...)
	case api.TVariant:
		return variant(many(1+m.some(8), orNone)...)
	case api.TResult:
		return result(orNone(), orNone())
	case api.TEnum:
		return enum(1 + m.some(63))
	case api.TFlags:
		return flags(1 + m.Intn(32))
	case api.TOwn, api.TBorrow:
		return api.Type{Kind: kind, R: m.Intn(5)}
	}
	return of(kind)
}

// types makes some types, seldom one that may not be.
func (m *maker) types() []api.Type {
	l := many(m.some(70), func() api.Type { return m.typ(m.Intn(6)) })
	if m.Intn(40) == 0 {
		l = append(l, one(m, bad()...))
	}
	return l
}

// val makes a value of a type that may be.
func (m *maker) val(t api.Type) api.Val {
	switch t.Kind {
	case api.TBool:
		return val(m.Intn(2))
	case api.TS8, api.TS16, api.TS32, api.TS64, api.TU64:
		return val(int(one(m, m.Uint64(), 0, 1<<63, 1<<63-1, 1<<64-1)) >> (64 - 8*ctype.Size(t)))
	case api.TU8, api.TU16, api.TU32, api.TOwn, api.TBorrow:
		return val(int(one(m, m.Uint64(), 0, 1<<63, 1<<64-1) >> (64 - 8*ctype.Size(t))))
	case api.TFlags:
		return val(int(one(m, m.Uint64(), 0, 1<<63, 1<<64-1) >> (64 - len(t.Names))))
	case api.TChar:
		return val(one(m, int('a'), 0, 0xD7FF, 0xE000, 0x10FFFF))
	case api.TString:
		return api.Val{S: m.chars()}
	case api.TList:
		return all(many(m.some(m.some(300)), func() api.Val { return m.val(t.L[0]) })...)
	case api.TRecord, api.TTuple:
		return all(m.vals(t.L)...)
	}
	l := cases(t)
	n := m.Intn(len(l))
	if l[n].Kind == 0 {
		return sum(n)
	}
	return sum(n, m.val(l[n]))
}

func (m *maker) vals(t []api.Type) []api.Val {
	var l []api.Val
	for _, x := range t {
		l = append(l, m.val(x))
	}
	return l
}

// chars makes a text, of wide characters, or of narrow ones alone.
func (m *maker) chars() []int {
	narrow := m.Intn(2) == 0
	n := m.some(1000)
	if m.Intn(12) == 0 {
		n = 300 + m.Intn(701)
	}
	return many(n, func() int {
		c := one(m, int('a'), 0, 0x7F, 0x80, 0xFF, m.Intn(256))
		if !narrow {
			c = one(m, c, 0x100, 0x7FF, 0x800, 0xD7FF, 0xE000, 0xFFFF, 0x10000, 0x10FFFF)
		}
		return c
	})
}

// core makes a core value.
func (m *maker) core() int {
	n := one(m, 0, 0, 1, 1, 2, 3, -1, 8*m.Intn(20), 97, 0xD800, m.Intn(1000), 1000, 1001, 65536, 1<<31+m.Intn(4), int(m.Uint64()))
	if m.Intn(6) == 0 {
		n += one(m, 1<<32, -1<<32, 1<<63-1<<32)
	}
	return n
}

// twins are a heap, and one of the second reading, on memories that are alike.
type twins struct {
	a desk
	p plain
	b *mem.Mem
}

// pair makes both, of a page of small numbers; there is room at these places.
func (m *maker) pair(room ...int) twins {
	mem := page()
	for range 200 {
		mem.Write(m.Intn(2000), nums(one(m, 0, 1, 2, 3, 8, 16, 64, 97, m.Intn(1<<16))))
	}
	if m.Intn(2) == 0 {
		mem.Fill(0, one(m, 0, 1, 97), 1<<10)
	}
	enc := m.Intn(3)
	other := mem.Clone()
	return twins{heap(mem, enc, room...), plain{heap(other, enc, room...).Heap}, other}
}

// alike looks whether both have the same bytes, and were asked for the same.
func (x twins) alike(t *testing.T) {
	t.Helper()
	if bytesOf(x.a.m) != bytesOf(x.b) || !slices.Equal(x.a.Wants(), x.p.h.Wants()) {
		t.Fatal("not alike", short(x.a.Wants()), short(x.p.h.Wants()))
	}
}

// lifted looks whether values are lifted as the second reading does it, or core values lowered.
func lifted(t *testing.T, l []api.Val, trap api.Trap, call func() []api.Val) api.Trap {
	t.Helper()
	var want []api.Val
	stop := caught(func() { want = call() })
	got(t, l, trap, want, stop)
	return stop
}

func lowered(t *testing.T, l []int, trap api.Trap, call func() []int) api.Trap {
	t.Helper()
	var want []int
	stop := caught(func() { want = call() })
	gotCore(t, l, trap, want, stop)
	return stop
}

// scattered are places of which most may be.
func (m *maker) scattered(n int) []int {
	return many(n, func() int {
		return one(m, 8*m.Intn(8192), 8*m.Intn(8192), 8*m.Intn(20), 8*m.Intn(8192), 8*m.Intn(8192), 8*m.Intn(8192), m.Intn(65536), 65536-m.Intn(40), 1<<32+8*m.Intn(8192))
	})
}

// sig makes a function.
func (m *maker) sig() api.Sig {
	l := m.types()
	if m.Intn(4) == 0 && len(l) < 20 {
		l = append(l, many(8+m.Intn(20), func() api.Type { return m.typ(m.Intn(3)) })...)
	}
	s := takes(l...)
	if m.Intn(4) > 0 {
		s.R = m.typ(m.Intn(5))
	}
	if m.Intn(60) == 0 {
		s = one(m, badSigs()...)
	}
	return s
}

// spoil changes a few core values, at some places.
func (m *maker) spoil(core []int) []int {
	core = slices.Clone(core)
	for range m.Intn(3) {
		if len(core) > 0 {
			core[m.Intn(len(core))] = m.core()
		}
	}
	switch m.Intn(30) {
	case 0:
		return append(core, m.core())
	case 1:
		return core[:m.Intn(len(core)+1)]
	}
	return core
}

// counts looks whether each of these traps came often.
func counts(t *testing.T, count map[api.Trap]int, traps ...api.Trap) {
	t.Helper()
	for _, x := range traps {
		if count[x] < 30 {
			t.Error(x, count)
		}
	}
	if len(count) != len(traps) {
		t.Error(count)
	}
}

// ups looks whether core values are lifted alike; they are values of the types, if these may be a tuple.
func (x twins) ups(t *testing.T, types []api.Type, core []int, count map[api.Trap]int) {
	t.Helper()
	l, trap := Lift(x.a.Heap, core, types...)
	count[lifted(t, l, trap, func() []api.Val { return x.p.lift(core, types) })]++
	if trap == api.NoTrap && len(types) > 0 && ctype.Check(tupled(types...)) == api.OK && value.Check(tupled(types...), all(l...)) != api.OK {
		t.Error("no values of the types", short(l))
	}
	x.alike(t)
}

// upSig looks at a function's arguments, and what it gives.
func (x twins) upSig(t *testing.T, s api.Sig, args, gave []int, count map[api.Trap]int) {
	t.Helper()
	l, trap := UpArgs(x.a.Heap, s, args...)
	count[lifted(t, l, trap, func() []api.Val { return x.p.upArgs(s, args) })]++
	v, trap := UpResult(x.a.Heap, s, gave...)
	var given []api.Val
	if trap == api.NoTrap {
		given = []api.Val{v}
	} else if !isZero(v) {
		t.Error(short(v), trap)
	}
	count[lifted(t, given, trap, func() []api.Val { return []api.Val{x.p.upResult(s, gave)} })]++
	x.alike(t)
}

// Core values by chance are lifted as the second reading does it.
func TestRandomLift(t *testing.T) {
	count := map[api.Trap]int{}
	for seed := range 3000 {
		m := made(seed)
		x := m.pair()
		was := x.a.m.Clone()
		for range 5 {
			l := m.types()
			n := widths(l)
			x.ups(t, l, m.spoil(many(n, m.core)), count)
			s := m.sig()
			n = widths(s.T)
			if n > 16 && m.Intn(20) > 0 {
				n = 1
			}
			x.upSig(t, s, m.spoil(many(n, m.core)), m.spoil(many(min(1, width(s.R)), m.core)), count)
		}
		x.a.is(t, was, nil)
	}
	counts(t, count, api.NoTrap, api.TrapHost, api.TrapAlign, api.TrapBounds, api.TrapLength, api.TrapText, api.TrapChar, api.TrapCase)
}

// Values by chance are lowered as the second reading does it; what they are lowered as is lifted likewise, if some of it is changed, too.
func TestRandomLower(t *testing.T) {
	count, back := map[api.Trap]int{}, map[api.Trap]int{}
	for seed := range 6000 {
		m := made(seed)
		room := m.scattered(one(m, 0, 1, 3, m.Intn(30), 2000, 2000))
		x := m.pair(room...)
		s := m.sig()
		if ctype.CheckSig(s) != api.OK {
			s.T, s.P = s.T[:0], s.P[:0]
		}
		l, v := m.vals(s.T), api.Val{}
		if ctype.CheckSig(s) == api.OK && s.R.Kind != 0 {
			v = m.val(s.R)
		}
		switch m.Intn(20) {
		case 0:
			l = append(l, val(0))
		case 1:
			l = l[:m.Intn(len(l)+1)]
		case 2:
			if len(l) > 0 {
				l[m.Intn(len(l))] = one(m, val(-1), str("\U0001F600"), all(val(1), val(2)), val(1<<40))
			}
			v = one(m, v, val(-1), str("a"))
		}
		at := one(m, 8*m.Intn(1000), 8*m.Intn(1000), 8*m.Intn(1000)+1<<32, 65536-m.Intn(50), m.Intn(1000), -8)
		core, trap := Lower(x.a.Heap, l, s.T...)
		count[lowered(t, core, trap, func() []int { return x.p.lower(l, s.T) })]++
		x.alike(t)
		args, trap := DownArgs(x.a.Heap, s, l...)
		count[lowered(t, args, trap, func() []int { return x.p.downArgs(s, l) })]++
		x.alike(t)
		gave, trap := DownResult(x.a.Heap, s, v, at)
		count[lowered(t, gave, trap, func() []int { return x.p.downResult(s, v, at) })]++
		x.alike(t)
		if Long(s) {
			gave = []int{at}
		}
		x.ups(t, s.T, core, back)
		x.ups(t, s.T, m.spoil(core), back)
		x.upSig(t, s, m.spoil(args), m.spoil(gave), back)
	}
	counts(t, count, api.NoTrap, api.TrapHost, api.TrapAlign, api.TrapBounds, api.TrapLength)
	counts(t, back, api.NoTrap, api.TrapHost, api.TrapAlign, api.TrapBounds, api.TrapLength, api.TrapText, api.TrapChar, api.TrapCase)
}

// Many parts by chance, about as many as may be.
func TestRandomParts(t *testing.T) {
	count := map[api.Trap]int{}
	for seed := range 1500 {
		m := made(seed)
		x := m.pair()
		x.a.m.Fill(0, 1, 4000)
		x.b.Fill(0, 1, 4000)
		var types []api.Type
		var core []int
		left := value.MaxParts - 1 + m.Intn(5) - 2
		for left > 0 {
			n := one(m, 1000, 999, m.Intn(1001))
			n = min(n, left-1)
			types = append(types, one(m, words, list(u8), list(boolean)))
			core = append(core, 8*m.Intn(300), n)
			left -= 1 + n
		}
		rest := one(m, 0, 0, 64-len(types), 65-len(types))
		types = append(types, times(max(0, rest), u8)...)
		core = append(core, times(max(0, rest), 0)...)
		if m.Intn(6) == 0 {
			types = append(types, one(m, deep(u8, 14), deep(u8, 15), char, enum(1)))
			core = append(core, 0)
			if types[len(types)-1].Kind == api.TList {
				core = append(core, 0)
			}
		}
		x.ups(t, types, core, count)
	}
	counts(t, count, api.NoTrap, api.TrapLength)
}
