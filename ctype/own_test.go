package ctype

import (
	"reflect"
	"slices"
	"testing"

	"scarf/api"
)

// room gives each list of a type room behind it, in which there is something.
func room(t api.Type) api.Type {
	l := []api.Type{}
	for _, x := range t.L {
		l = append(l, room(x))
	}
	t.L = append(l, of(99), list(u64))[:len(l)]
	names := slices.Clone(t.Names)
	t.Names = append(names, "", "no name")[:len(names)]
	return t
}

// behindToo tells a type with what lies behind its lists.
func behindToo(t api.Type) api.Type {
	t.Names = slices.Clone(t.Names[:cap(t.Names)])
	t.L = slices.Clone(t.L[:cap(t.L)])
	for i := range t.L {
		t.L[i] = behindToo(t.L[i])
	}
	return t
}

// all kinds of types, within one another.
func all() []api.Type {
	rest := []api.Type{by(api.TEnum, some(3)), by(api.TFlags, some(9)), option(by(api.TEnum, some(2))), result(record(u8, text), nothing), result(nothing, variant(nothing, tuple(u64, list(u8)))), own}
	l := append(good(), tuple(rest...), record(rest...), variant(rest...), list(tuple(rest...)), option(record(rest...)), list(nothing), of(99))
	return append(l, result(tuple(rest...), variant(rest...)))
}

// What is handed in is not changed, nor what lies behind its lists read or written.
func TestWhatIsHandedIn(t *testing.T) {
	for _, x := range all() {
		y := room(x)
		was := behindToo(y)
		s := api.Sig{P: append(some(2), "n1", "")[:2], T: append([]api.Type{y, y}, y, of(99))[:2], R: y}
		wasP, wasT := slices.Clone(s.P[:4]), slices.Clone(s.T[:4])
		for range 2 {
			if Check(y) != Check(x) || Size(y) != Size(x) || Align(y) != Align(x) || !slices.Equal(Places(y), Places(x)) || !slices.Equal(Flat(y), Flat(x)) || !equal(Plain(y), Plain(x)) {
				t.Error(short(x))
			}
			a, b := Case(x)
			if c, d := Case(y); a != c || b != d {
				t.Error(short(x), c, d)
			}
			z := sig(x, x, x)
			if CheckSig(s) != CheckSig(z) || !slices.Equal(Args(s), Args(z)) {
				t.Error(short(s))
			}
			for _, lower := range []bool{false, true} {
				f, e := Core(s, lower)
				g, h := Core(z, lower)
				if e != h || !slices.Equal(f.P, g.P) || !slices.Equal(f.R, g.R) {
					t.Error(short(s), lower)
				}
			}
		}
		if !equal(behindToo(y), was) || !slices.Equal(s.P[:4], wasP) || !slices.EqualFunc(s.T[:4], wasT, equal) {
			t.Error("changed", short(x))
		}
	}
}

// arrays goes through what lies behind all of a thing's lists, with their room.
func arrays(v reflect.Value, seen func(from, to uintptr)) {
	switch v.Kind() {
	case reflect.Struct:
		for i := range v.NumField() {
			arrays(v.Field(i), seen)
		}
	case reflect.Slice:
		if v.Cap() > 0 {
			from := v.Pointer()
			seen(from, from+uintptr(v.Cap())*v.Type().Elem().Size())
		}
		for i := range v.Len() {
			arrays(v.Index(i), seen)
		}
	}
}

// What is answered shares no memory with what was given, nor with another answer, nor do two of its lists.
func TestOwnLists(t *testing.T) {
	type span struct{ from, to uintptr }
	for _, x := range all() {
		if len(x.L) > 1 {
			x.L[1].Names = x.L[0].Names // what is given may share
			if x.L[1].Kind == x.L[0].Kind {
				x.L[1] = x.L[0]
			}
		}
		s := sig(x, x, x)
		f, _ := Core(s, false)
		g, _ := Core(s, true)
		var l []span
		for _, answer := range []any{Plain(x), Plain(x), Places(x), Places(x), Flat(x), Flat(x), Args(s), Args(s), f, g} {
			arrays(reflect.ValueOf(answer), func(from, to uintptr) {
				for _, y := range l {
					if from < y.to && y.from < to {
						t.Error("shared", short(x))
					}
				}
				l = append(l, span{from, to})
			})
		}
		arrays(reflect.ValueOf(s), func(from, to uintptr) {
			for _, y := range l {
				if from < y.to && y.from < to {
					t.Error("shared with what was given", short(x))
				}
			}
		})
	}
}

// What is told of a type has no end where the type has none: it is refused.
func TestTypesWithoutEnd(t *testing.T) {
	for _, x := range []api.Type{list(u8), option(u8), tuple(times(64, u8)...), record(u8, u8), variant(times(64, u8)...), result(nothing, u8), result(u8, u8), {Kind: 99, L: times(2, u8)}, {L: times(2, u8)}} {
		for i := range x.L {
			x.L[i] = x
		}
		for range 2 {
			bytes, at := Case(x)
			if Check(x) != api.ErrArg || Size(x) != 0 || Align(x) != 0 || len(Places(x)) != 0 || bytes != 0 || at != 0 || len(Flat(x)) != 0 {
				t.Error("told", x.Kind)
			}
			for _, s := range []api.Sig{{R: x}, {P: some(1), T: []api.Type{x}}} {
				f, e := Core(s, true)
				if CheckSig(s) != api.ErrArg || len(Args(s)) != 0 || e != api.ErrArg || len(f.P) != 0 || len(f.R) != 0 {
					t.Error("told", x.Kind)
				}
			}
		}
	}
}

// What is great, and what stands very deep, comes to an end.
func TestGreat(t *testing.T) {
	mayNot(t, deep(u8, 60000))
	if p := Plain(option(deep(u8, 60000))); p.Kind != api.TVariant {
		t.Error(p.Kind)
	}
	mayNot(t, by(api.TEnum, some(1<<16)))
	mayNot(t, tuple(times(1<<16, u8)...))
	mayNot(t, record(times(1<<16, u8)...))
	if p := Plain(tuple(times(1<<16, u8)...)); len(p.Names) != 1<<16 || p.Names[65535] != "65535" {
		t.Error(len(p.Names))
	}
	sigMayNot(t, sig(nothing, times(1<<16, u8)...))
	// Types that are named in many places: 64^15 of them in all.
	x := u8
	for range 15 {
		x = tuple(times(64, x)...)
	}
	if Check(x) != api.ErrArg || Size(x) != 0 || len(Flat(x)) != 0 {
		t.Error("too many")
	}
	// The greatest there are.
	x = variant(times(64, u64)...)
	x = tuple(x, x, x, x, x, x, x)
	held(t, x)
	if Size(x) != 7*16 || len(Flat(x)) != 14 {
		t.Error(Size(x), len(Flat(x)))
	}
	x = tuple(slices.Repeat([]api.Type{tuple(times(64, text)...)}, 7)...)
	if held(t, x); Size(x) != 7*64*8 || len(Flat(x)) != 7*64*2 {
		t.Error(Size(x), len(Flat(x)))
	}
	s := sig(x, times(64, x)...)
	if f, e := Core(s, true); len(Args(s)) != 64*7*64*2 || e != api.OK || letters(f.P) != "ii" {
		t.Error(len(Args(s)), e, f)
	}
}
