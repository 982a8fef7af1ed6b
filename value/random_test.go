package value

import (
	"math"
	"math/rand"
	"slices"
	"strconv"
	"testing"

	"scarf/api"
	"scarf/ctype"
)

// maker makes types, and values, by chance.
type maker struct{ *rand.Rand }

func made(seed int64) *maker { return &maker{rand.New(rand.NewSource(seed))} }

func one[T any](m *maker, l ...T) T { return l[m.Intn(len(l))] }

// some makes a number of things, most often a small one.
func (m *maker) some(most int) int {
	if m.Intn(40) == 0 {
		return m.Intn(most + 1)
	}
	return m.Intn(4)
}

// typ makes a type in which as many stand within one another, at most.
func (m *maker) typ(left int) api.Type {
	kind := 1 + m.Intn(21)
	if left <= 1 {
		kind = one(m, 1, 2, 3, 4, 5, 6, 7, 8, 9, 9, 10, 11, 16, 19, 20, 21)
	}
	switch kind {
	case api.TList:
		return list(m.typ(left - 1))
	case api.TOption:
		return option(m.typ(left - 1))
	case api.TTuple, api.TRecord:
		var l []api.Type
		for range max(1, m.some(64)) {
			l = append(l, m.typ(left-1-m.Intn(3)))
		}
		if kind == api.TTuple {
			return tuple(l...)
		}
		return record(l...)
	case api.TVariant:
		var l []api.Type
		for range max(1, m.some(64)) {
			l = append(l, m.orNone(left-1-m.Intn(3)))
		}
		return variant(l...)
	case api.TResult:
		return result(m.orNone(left-1), m.orNone(left-1))
	case api.TEnum:
		return enum(max(1, m.some(64)))
	case api.TFlags:
		return flags(1 + m.Intn(32))
	case api.TOwn, api.TBorrow:
		return api.Type{Kind: kind, R: m.Intn(1<<20 + 1)}
	}
	return of(kind)
}

func (m *maker) orNone(left int) api.Type {
	if m.Intn(3) == 0 {
		return nothing
	}
	return m.typ(left)
}

// bits makes a number of that many bits.
func (m *maker) bits(n int) int {
	most := 1<<n - 1
	return one(m, 0, 1&most, most, most-most/3, int(m.Uint64())&most)
}

func (m *maker) signed(n int) int {
	return one(m, 0, -1, -1<<(n-1), 1<<(n-1)-1, int(m.Uint64())<<(64-n)>>(64-n))
}

func (m *maker) char() int {
	return one(m, int('a'), '#', '"', '\\', ' ', '~', 0x7F, 0, 0xFF, 0xD7FF, 0xE000, 0x10FFFF, m.Intn(128), m.Intn(0xD800))
}

// val makes a value of a type that may be.
func (m *maker) val(t api.Type) api.Val {
	switch t.Kind {
	case api.TString:
		var v api.Val
		for range m.some(1000) {
			v.S = append(v.S, m.char())
		}
		return v
	case api.TList:
		var v api.Val
		for range m.some(m.some(1000)) {
			v.L = append(v.L, m.val(t.L[0]))
		}
		return v
	case api.TRecord, api.TTuple:
		var v api.Val
		for _, x := range t.L {
			v.L = append(v.L, m.val(x))
		}
		return v
	case api.TOption:
		return m.sum(nothing, t.L[0])
	case api.TResult, api.TVariant:
		return m.sum(t.L...)
	case api.TEnum:
		return num(m.Intn(len(t.Names)))
	}
	return num(m.number(t))
}

func (m *maker) sum(l ...api.Type) api.Val {
	i := m.Intn(len(l))
	if l[i].Kind == 0 {
		return num(i)
	}
	return sum(i, m.val(l[i]))
}

func (m *maker) number(t api.Type) int {
	switch t.Kind {
	case api.TBool:
		return m.bits(1)
	case api.TS8:
		return m.signed(8)
	case api.TU8:
		return m.bits(8)
	case api.TS16:
		return m.signed(16)
	case api.TU16:
		return m.bits(16)
	case api.TS32:
		return m.signed(32)
	case api.TChar:
		return m.char()
	case api.TFlags:
		return m.bits(len(t.Names))
	case api.TS64, api.TU64:
		return m.signed(64)
	}
	return m.bits(32)
}

// spoil changes a field of a value, or of one within; often it is one of the type no more.
func (m *maker) spoil(v *api.Val) {
	for len(v.L) > 0 && m.Intn(3) > 0 {
		v = &v.L[m.Intn(len(v.L))]
	}
	switch m.Intn(7) {
	case 0:
		v.N += one(m, 1, -1, 2, 100, 128, 256, 1<<15, 1<<16, 1<<31, 1<<32, math.MinInt64)
	case 1:
		v.N = one(m, 0, 1, 2, -1, 64, 1<<32, 0xD800, 0x110000, math.MaxInt64, math.MinInt64)
	case 2:
		v.S = append(v.S, one(m, int('a'), 0, -1, 0xD800, 0x110000))
	case 3:
		v.L = append(v.L, one(m, api.Val{}, num(1), str("a"), all(num(1))))
	case 4:
		if len(v.L) > 0 {
			v.L = slices.Delete(v.L, 0, 1)
		}
	case 5:
		if len(v.S) > 0 {
			v.S[m.Intn(len(v.S))] = one(m, int('b'), -1, 0xD800, 0xDFFF, 0x110000)
		}
	case 6:
		*v = one(m, all(*v), api.Val{}, str("a"))
	}
}

// heldValue looks whether all that is told of a value is as the second reading tells it.
func heldValue(t *testing.T, m *maker, x api.Type, v api.Val) api.Errno {
	t.Helper()
	want := plainError(x, v)
	if want != api.OK {
		if e := Check(x, v); e != want {
			t.Errorf("%s %s: %d, not %d", short(x), short(v), e, want)
		}
		types, n := Handles(x, v)
		w, e := With(x, v, n...)
		s, f := Text(x, v)
		if len(types)+len(n) != 0 || e != want || !isZero(w) || f != want || s != "" {
			t.Errorf("%s %s: %v %v %d %s %d %q", short(x), short(v), types, n, e, short(w), f, s)
		}
		return want
	}
	yes(t, x, v)
	s, _ := Text(x, v)
	if s != plainText(x, v) {
		t.Errorf("%s: %s, not %s", short(v), s, plainText(x, v))
	}
	types, n := Handles(x, v)
	if !sameTypes(types, plainTypes(x, v)) || !slices.Equal(hashed(n), plainNumbers(s)) {
		t.Errorf("%s %s: %v %v", short(x), short(v), types, n)
	}
	others := make([]int, len(n))
	for i := range others {
		others[i] = m.bits(32)
	}
	with(t, x, v, api.OK, others...)
	// Its text is the same, but for the handles' numbers.
	w, _ := With(x, v, others...)
	z, _ := Text(x, w)
	if numbered.ReplaceAllString(quoted.ReplaceAllString(z, "_"), "#") != numbered.ReplaceAllString(quoted.ReplaceAllString(s, "_"), "#") || !slices.Equal(plainNumbers(z), hashed(others)) {
		t.Errorf("%s %v: %s", s, others, z)
	}
	return api.OK
}

func hashed(l []int) []string {
	var out []string
	for _, n := range l {
		out = append(out, "#"+strconv.Itoa(n))
	}
	return out
}

func TestRandomValues(t *testing.T) {
	count := map[api.Errno]int{}
	spoilt := map[bool]int{}
	for seed := range int64(30000) {
		m := made(seed)
		x := m.typ(1 + m.Intn(8))
		if m.Intn(50) == 0 {
			x = one(m, list(x), option(x), tuple(u8, x), variant(x, one(m, bad()...)), one(m, bad()...))
		}
		if ctype.Check(x) != api.OK {
			count[heldValue(t, m, x, one(m, loose()...))]++
			continue
		}
		v := m.val(x)
		if plainError(x, v) != api.OK && plainParts(v) <= MaxParts {
			t.Error("made no value", short(x), short(v))
		}
		was := copied(v)
		for m.Intn(2) == 0 {
			m.spoil(&v)
		}
		count[heldValue(t, m, x, v)]++
		ok := equal(v, was)
		same(t, v, was, ok)
		spoilt[ok]++
		// A value of one type is, most often, none of another one.
		count[heldValue(t, m, m.typ(1+m.Intn(3)), v)]++
	}
	if count[api.OK] < 10000 || count[api.ErrType] < 10000 || count[api.ErrArg] < 10 || spoilt[true] < 5000 || spoilt[false] < 5000 {
		t.Error(count, spoilt)
	}
}

// crowd makes a value of list<t> that is made of about as many, if a list may have so many values.
func (m *maker) crowd(t api.Type, parts int) api.Val {
	var v api.Val
	for n := 1; n < parts && len(v.L) < MaxItems+2; {
		x := m.val(t)
		if m.Intn(3) > 0 || plainParts(x) < parts-n {
			v.L = append(v.L, x)
			n += plainParts(x)
		}
	}
	return v
}

// Near the limits of how many there are.
func TestRandomLimits(t *testing.T) {
	type kind struct {
		e    api.Errno
		near bool
	}
	count := map[kind]int{}
	for seed := range int64(1000) {
		m := made(seed)
		x := one(m, words, option(words), tuple(own(1), words), tuple(lent(1), u8, enum(2)), list(result(nothing, own(2))))
		v := m.crowd(x, MaxParts-5+m.Intn(6))
		x = list(x)
		if m.Intn(2) == 0 {
			x, v = tuple(words, x), all(m.val(words), v)
		}
		e := heldValue(t, m, x, v)
		count[kind{e, plainParts(v) > MaxParts-10 && plainParts(v) < MaxParts+10}]++
	}
	if count[kind{api.OK, true}] < 100 || count[kind{api.ErrType, true}] < 100 || count[kind{api.ErrType, false}] < 100 {
		t.Error(count)
	}
}

func TestRandomArgs(t *testing.T) {
	count := map[api.Errno]int{}
	for seed := range int64(20000) {
		m := made(seed)
		var s api.Sig
		var l []api.Val
		for range m.Intn(5) {
			x := m.typ(m.Intn(4))
			if ctype.Check(x) != api.OK {
				x = u8
			}
			s.T = append(s.T, x)
			l = append(l, m.val(x))
		}
		s.P = some(len(s.T))
		s.R = m.orNone(3)
		switch m.Intn(8) {
		case 0:
			l = append(l, num(0))
		case 1:
			l = l[:len(l)/2]
		case 2, 3:
			if len(l) > 0 {
				m.spoil(&l[m.Intn(len(l))])
			}
		case 4:
			if len(l) > 1 {
				l[0], l[1] = l[1], l[0]
			}
		case 5:
			if m.Intn(3) == 0 {
				s.P = append(s.P, "n0")
				s.T = append(s.T, one(m, u8, nothing, words))
			}
		case 6:
			s.P, s.T = append(s.P, "z"), append(s.T, list(words))
			left := MaxParts - 3 + m.Intn(6)
			for _, v := range l {
				left -= plainParts(v)
			}
			l = append(l, filled(max(left, 1)))
		}
		want := plainArgs(s, l)
		args(t, s, want, l...)
		count[want]++
	}
	if count[api.OK] < 5000 || count[api.ErrType] < 5000 || count[api.ErrArg] < 100 {
		t.Error(count)
	}
}
