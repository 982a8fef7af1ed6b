package ctype

import (
	"math/rand"
	"slices"
	"strconv"
	"strings"
	"testing"

	"scarf/api"
)

// maker makes types by chance.
type maker struct{ *rand.Rand }

func one[T any](m *maker, l ...T) T { return l[m.Intn(len(l))] }

// number makes a number of things, most often a small one.
func (m *maker) number(most int) int {
	if m.Intn(30) == 0 {
		return 1 + m.Intn(most)
	}
	return 1 + m.Intn(3)
}

// typ makes a type in which as many stand within one another, at most.
func (m *maker) typ(left int) api.Type {
	kind := 1 + m.Intn(21)
	if left <= 1 {
		kind = one(m, 1, 2, 3, 4, 5, 6, 7, 8, 9, 9, 10, 11, 16, 19, 20, 21)
	}
	t := api.Type{Kind: kind}
	switch kind {
	case api.TList, api.TOption:
		t.L = []api.Type{m.typ(left - 1)}
	case api.TTuple, api.TRecord:
		for range m.number(64) {
			t.L = append(t.L, m.typ(left-1-m.Intn(3)))
		}
	case api.TVariant:
		for range m.number(64) {
			t.L = append(t.L, m.orNone(left-1-m.Intn(3)))
		}
	case api.TResult:
		t.L = []api.Type{m.orNone(left - 1), m.orNone(left - 1)}
	case api.TEnum:
		t.Names = some(m.number(64))
	case api.TFlags:
		t.Names = some(one(m, m.number(32), 1+m.Intn(32)))
	case api.TOwn, api.TBorrow:
		t.R = one(m, 0, 1, m.Intn(MaxRes+1), MaxRes)
	}
	if kind == api.TRecord || kind == api.TVariant {
		t.Names = some(len(t.L))
	}
	return t
}

func (m *maker) orNone(left int) api.Type {
	if m.Intn(3) == 0 {
		return nothing
	}
	return m.typ(left)
}

// spoil changes a field of a type, or of one within.
func (m *maker) spoil(t *api.Type) {
	for len(t.L) > 0 && m.Intn(3) > 0 {
		t = &t.L[m.Intn(len(t.L))]
	}
	switch m.Intn(9) {
	case 0:
		t.Kind = one(m, -1, 0, 22, 23, 1+m.Intn(21), 1+m.Intn(21))
	case 1:
		t.R = one(m, -1, 0, 1, MaxRes, MaxRes+1, m.Int())
	case 2:
		t.L = append(t.L, one(m, nothing, u8))
	case 3:
		t.Names = append(t.Names, one(m, "a", "n0", ""))
	case 4:
		if len(t.L) > 0 {
			t.L = t.L[1:]
		}
	case 5:
		if len(t.Names) > 0 {
			t.Names = t.Names[1:]
		}
	case 6:
		if len(t.Names) > 0 {
			t.Names[m.Intn(len(t.Names))] = one(m, "a", "A", "n0", "n-0", "N1", "0", "", "a-B", "aB", strings.Repeat("a", 100), strings.Repeat("a", 101))
		}
	case 7:
		if len(t.L) > 0 {
			t.L[m.Intn(len(t.L))] = one(m, nothing, nothing, api.Type{R: 1}, text)
		}
	case 8:
		*t = list(*t)
	}
}

// held looks whether all that is told of a type is as the second reading tells it.
func held(t *testing.T, x api.Type) bool {
	t.Helper()
	if !plainMay(x) {
		mayNot(t, x)
		return false
	}
	m := imageOf(x)
	var places []int
	if x.Kind == api.TRecord || x.Kind == api.TTuple {
		places = m.at
	}
	if Check(x) != api.OK || Size(x) != len(m.bytes) || Align(x) != m.align || !slices.Equal(Places(x), places) || letters(Flat(x)) != plainFlat(x) || !equal(Plain(x), plainPlain(x)) {
		t.Errorf("%s: %d %d %d %v %s", short(x), Check(x), Size(x), Align(x), Places(x), letters(Flat(x)))
	}
	bytes, at := Case(x)
	if plainPlain(x).Kind == api.TVariant {
		if bytes != 1 || at != m.at[0] {
			t.Errorf("%s: %d %d, not %d", short(x), bytes, at, m.at[0])
		}
	} else if bytes != 0 || at != 0 {
		t.Errorf("%s: %d %d", short(x), bytes, at)
	}
	return true
}

// liesWell looks at 13.6: a size is a multiple of the alignment; fields lie aligned, and not over one another.
func liesWell(t *testing.T, x api.Type) {
	t.Helper()
	size, align := Size(x), Align(x)
	ok := size > 0 && size%align == 0
	end := 0
	for i, at := range Places(x) {
		ok = ok && at%Align(x.L[i]) == 0 && at >= end && align%Align(x.L[i]) == 0
		end = at + Size(x.L[i])
	}
	if bytes, at := Case(x); bytes > 0 {
		end = at
		for _, y := range Plain(x).L {
			if y.Kind != 0 {
				ok = ok && at >= bytes && at%Align(y) == 0 && align%Align(y) == 0
				end = max(end, at+Size(y))
			}
		}
	}
	if !ok || end > size || size-end >= align && end > 0 {
		t.Errorf("%s: %d %d %v", short(x), size, align, Places(x))
	}
}

func TestRandomTypes(t *testing.T) {
	count := map[bool]int{}
	for seed := range int64(30000) {
		m := &maker{rand.New(rand.NewSource(seed))}
		x := m.typ(1 + m.Intn(10))
		if m.Intn(20) == 0 {
			x = deep(x, m.Intn(16))
		}
		for m.Intn(3) == 0 {
			m.spoil(&x)
		}
		ok := held(t, x)
		count[ok]++
		if ok {
			liesWell(t, x)
		}
	}
	if count[true] < 10000 || count[false] < 3000 {
		t.Error(count)
	}
}

// Near the limits: of how many types it is made, how many stand within one another.
func TestRandomLimits(t *testing.T) {
	count := map[bool]int{}
	for seed := range int64(6000) {
		m := &maker{rand.New(rand.NewSource(seed))}
		x := parts(460 + m.Intn(60))
		if m.Intn(2) == 0 {
			x = deep(u8, 10+m.Intn(6))
		}
		for range m.Intn(6) {
			l := []api.Type{x}
			for range m.Intn(4) {
				l = append(l, one(m, u8, text, result(nothing, u8), list(u8), variant(nothing, nothing)))
			}
			m.Shuffle(len(l), func(i, j int) { l[i], l[j] = l[j], l[i] })
			x = one(m, tuple(l...), record(l...), variant(l...), variant(append(l, nothing, nothing)...), option(x), result(nothing, x), result(x, nothing))
		}
		count[held(t, x)]++
	}
	if count[true] < 1000 || count[false] < 1000 {
		t.Error(count)
	}
}

func TestRandomSigs(t *testing.T) {
	type kind struct{ ok, wide, long, lower bool }
	count := map[kind]int{}
	for seed := range int64(20000) {
		m := &maker{rand.New(rand.NewSource(seed))}
		s := api.Sig{Name: one(m, "", "f"), R: m.orNone(m.Intn(5))}
		for range one(m, m.Intn(6), m.Intn(20)) {
			s.T = append(s.T, m.typ(m.Intn(4)))
			s.P = append(s.P, "a"+strconv.Itoa(len(s.P)))
		}
		switch {
		case m.Intn(100) == 0:
			s.T = times(60+m.Intn(8), m.typ(2))
			s.P = some(len(s.T))
		case m.Intn(20) == 0:
			s.P = append(s.P, one(m, "a0", "b", ""))
			s.T = append(s.T, one(m, u8, nothing, text, list(nothing)))
		case m.Intn(20) == 0:
			m.spoil(&s.R)
		case m.Intn(20) == 0 && len(s.P) > 0:
			s.P = s.P[1:]
		}
		if !plainSigMay(s) {
			sigMayNot(t, s)
			count[kind{}]++
			continue
		}
		lower := m.Intn(2) == 0
		f, e := Core(s, lower)
		if got := letters(f.P) + " " + letters(f.R); CheckSig(s) != api.OK || e != api.OK || letters(Args(s)) != plainFlats(s.T) || got != plainCore(s, lower) {
			t.Errorf("%s: %d %d %s %s", short(s), CheckSig(s), e, letters(Args(s)), got)
		}
		count[kind{true, len(Args(s)) > MaxFlat, len(Flat(s.R)) > 1, lower}]++
	}
	for i := range 9 {
		k := kind{true, i&1 > 0, i&2 > 0, i&4 > 0}
		if i == 8 {
			k = kind{}
		}
		if count[k] < 100 {
			t.Error(k, count)
		}
	}
}
