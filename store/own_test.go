package store

import (
	"reflect"
	"slices"
	"testing"

	"scarf/api"
	"scarf/ctype"
)

// room gives each list of a value room behind it, in which there is something, typeRoom those of a type.
func room(v api.Val) api.Val {
	s := slices.Clone(v.S)
	l := []api.Val{}
	for _, x := range v.L {
		l = append(l, room(x))
	}
	v.S = append(s, -1, 0xD800)[:len(s)]
	v.L = append(l, num(-7), str("no"))[:len(l)]
	return v
}

func typeRoom(t api.Type) api.Type {
	l := []api.Type{}
	for _, x := range t.L {
		l = append(l, typeRoom(x))
	}
	names := slices.Clone(t.Names)
	t.L = append(l, of(99), list(u64))[:len(l)]
	t.Names = append(names, "", "no name")[:len(names)]
	return t
}

// behind tells a thing with what lies behind its lists.
func behind(v reflect.Value) any {
	switch v.Kind() {
	case reflect.Struct:
		var l []any
		for i := range v.NumField() {
			l = append(l, behind(v.Field(i)))
		}
		return l
	case reflect.Slice:
		l := []any{v.Len()}
		all := v.Slice(0, v.Cap())
		for i := range all.Len() {
			l = append(l, behind(all.Index(i)))
		}
		return l
	}
	return v.Interface()
}

func whole(x any) any { return behind(reflect.ValueOf(x)) }

// samples are types, and values of them, with lists of all kinds.
func samples() []struct {
	t api.Type
	v api.Val
} {
	return []struct {
		t api.Type
		v api.Val
	}{
		{words, str("aé")}, {list(words), all(str("ab"), str(""), str("c"))}, {list(list(u8)), all(all(num(1)), all(), all(num(2), num(3)))},
		{record(flags(9), enum(3), option(words), result(own(1), nothing)), all(num(511), num(2), sum(1, str("a")), sum(0, num(9)))},
		{variant(nothing, tuple(words, own(3), list(boolean))), sum(1, all(str("abc"), num(1<<32-1), all(num(1))))},
	}
}

// What is handed in is not changed, nor what lies behind its lists read or written.
func TestWhatIsHandedIn(t *testing.T) {
	for _, x := range samples() {
		y, v := typeRoom(x.t), room(x.v)
		places := append([]int{256, 320, 384, 448, 512}, 576, 640)[:5]
		l := append([]api.Val{v, v}, num(-1))[:2]
		chars := append([]int{'a', 'b'}, -1)[:2]
		was := []any{whole(y), whole(v), whole(places), whole(l), whole(chars)}
		for range 2 {
			h := heap(page(), 1, places...)
			if trap := h.Store(y, v, 8); trap != api.NoTrap {
				t.Error(short(x.t), trap)
			}
			h.loads(t, y, 8, x.v)
			// Behind the places there is none more.
			for range 5 {
				h.Give(1, 0)
			}
			gave(t, h, 1, 0, 0, api.TrapHost)
			h = heap(page(), 2, append(times(20, 512), 1)[:20]...)
			if at, trap := h.List(y, l...); at != 512 || trap != api.NoTrap {
				t.Error(short(x.t), at, trap)
			}
			if at, n, trap := h.Text(chars...); at != 512 || n != 2 || trap != api.NoTrap {
				t.Error(at, n, trap)
			}
			h.LoadList(y, 512, 2)
			Case(y, 1)
			Simple(y, 1)
			h.Store(y, api.Val{N: -1, L: l}, 8)
		}
		if now := []any{whole(y), whole(v), whole(places), whole(l), whole(chars)}; !reflect.DeepEqual(now, was) {
			t.Error("changed", short(x.v))
		}
	}
}

// A heap keeps places of its own, and tells others what was asked for.
func TestOwnPlaces(t *testing.T) {
	l := []int{8, 16, 24}
	h := heap(page(), 0, l...)
	l[0], l[1] = 100, 101
	gave(t, h, 1, 1, 8, api.NoTrap)
	w := h.Wants()
	l[2] = 102
	w[0].At = 99
	gave(t, h, 2, 1, 16, api.NoTrap)
	gave(t, h, 4, 1, 24, api.NoTrap)
	w = append(w, api.Want{Size: 1}, api.Want{Size: 2})
	wanted(t, h, api.Want{Align: 1, Size: 1, At: 8}, api.Want{Align: 2, Size: 1, At: 16}, api.Want{Align: 4, Size: 1, At: 24})
	if w[0].At != 99 {
		t.Error(w)
	}
}

// arrays goes through what lies behind all of a thing's lists, with their room.
func arrays(v reflect.Value, seen func(from, to uintptr)) {
	switch v.Kind() {
	case reflect.Struct:
		for i := range v.NumField() {
			arrays(v.Field(i), seen)
		}
	case reflect.Slice:
		if v.Cap() > 0 {
			from := v.Pointer()
			seen(from, from+uintptr(v.Cap())*v.Type().Elem().Size())
		}
		for i := range v.Len() {
			arrays(v.Index(i), seen)
		}
	}
}

// What is answered shares no memory with what was given, nor with another answer, nor do two of its lists.
func TestOwnLists(t *testing.T) {
	type span struct{ from, to uintptr }
	for _, x := range samples() {
		h := heap(page(), 2, 256, 320, 384, 448, 512)
		h.Store(x.t, x.v, 8)
		a, _ := h.Load(x.t, 8)
		b, _ := h.Load(x.t, 8)
		c, _ := h.LoadText(256, 2)
		d, _ := h.LoadText(256, 2)
		e, _ := h.LoadList(x.t, 8, 1)
		f, _ := h.LoadList(x.t, 8, 1)
		if !equal(a, x.v) || len(c) != 2 || !equal(e[0], x.v) {
			t.Error(short(a), c, short(e))
		}
		y := result(x.t, x.t)
		i, _ := Case(y, 1)
		j, _ := Case(y, 1)
		var l []span
		for _, given := range []any{x.t, x.v, y} {
			arrays(reflect.ValueOf(given), func(from, to uintptr) { l = append(l, span{from, to}) })
		}
		for _, answer := range []any{a, b, c, d, e, f, h.Wants(), h.Wants(), i, j} {
			arrays(reflect.ValueOf(answer), func(from, to uintptr) {
				for _, y := range l {
					if from < y.to && y.from < to {
						t.Error("shared", short(x.v))
					}
				}
				l = append(l, span{from, to})
			})
		}
	}
}

// Values without end are none of any type; a type that has very many within is asked once, not at each value.
func TestNoEnd(t *testing.T) {
	v := all(num(0))
	v.L[0] = v
	h := heap(page(), 0, times(3000, 512)...)
	h.lays(t, deep(u8, 15), v, 8, api.TrapHost, nil)
	h.lays(t, list(u8), all(times(1<<20, num(1))...), 8, api.TrapHost, nil)
	if at, trap := h.List(deep(u8, 14), v.L...); at != 0 || trap != api.TrapHost {
		t.Error(at, trap)
	}
	if at, trap := h.List(u8, times(1<<20, num(1))...); at != 0 || trap != api.TrapHost {
		t.Error(at, trap)
	}
	big := tuple(times(60, tuple(times(7, enum(64))...))...)
	if ctype.Check(list(option(big))) != api.OK {
		t.Fatal("too big")
	}
	h.m.Fill(0, 0, api.Page)
	items(t, h, option(big), 0, 150, api.NoTrap, times(150, sum(0))...)
	if trap := h.Store(list(option(big)), all(times(150, sum(0))...), 8); trap != api.NoTrap {
		t.Error(trap)
	}
}
