package lift

import (
	"reflect"
	"slices"
	"testing"

	"scarf/api"
)

// room gives each list of a value room behind it, in which there is something, typeRoom those of a type.
func room(v api.Val) api.Val {
	s := slices.Clone(v.S)
	l := []api.Val{}
	for _, x := range v.L {
		l = append(l, room(x))
	}
	v.S = append(s, -1, 0xD800)[:len(s)]
	v.L = append(l, val(-7), str("no"))[:len(l)]
	return v
}

func typeRoom(t api.Type) api.Type {
	l := []api.Type{}
	for _, x := range t.L {
		l = append(l, typeRoom(x))
	}
	names := slices.Clone(t.Names)
	t.L = append(l, of(99), list(u64))[:len(l)]
	t.Names = append(names, "", "no name")[:len(names)]
	return t
}

// behind tells a thing with what lies behind its lists.
func behind(v reflect.Value) any {
	switch v.Kind() {
	case reflect.Struct:
		var l []any
		for i := range v.NumField() {
			l = append(l, behind(v.Field(i)))
		}
		return l
	case reflect.Slice:
		l := []any{v.Len()}
		all := v.Slice(0, v.Cap())
		for i := range all.Len() {
			l = append(l, behind(all.Index(i)))
		}
		return l
	}
	return v.Interface()
}

func whole(x any) any { return behind(reflect.ValueOf(x)) }

// arrays goes through what lies behind all of a thing's lists, with their room.
func arrays(v reflect.Value, seen func(from, to uintptr)) {
	switch v.Kind() {
	case reflect.Struct:
		for i := range v.NumField() {
			arrays(v.Field(i), seen)
		}
	case reflect.Slice:
		if v.Cap() > 0 {
			from := v.Pointer()
			seen(from, from+uintptr(v.Cap())*v.Type().Elem().Size())
		}
		for i := range v.Len() {
			arrays(v.Index(i), seen)
		}
	}
}

// samples are types, and values of them, with lists of all kinds.
func samples() []struct {
	t api.Type
	v api.Val
} {
	return []struct {
		t api.Type
		v api.Val
	}{
		{words, str("aé")}, {list(words), all(str("ab"), str(""), str("c"))}, {list(list(u8)), all(all(val(1)), all(), all(val(2), val(3)))}, {tupled(u8, s64), all(val(1), val(-2))}, {option(tupled(words, u8)), sum(0)}, {enum(3), sum(2)}, {u8, val(5)},
		{record(flags(9), enum(3), option(words), result(own(1), nothing)), all(val(511), val(2), sum(1, str("a")), sum(0, val(9)))}, {variant(nothing, tupled(words, own(3), list(boolean))), sum(1, all(str("abc"), val(1<<32-1), all(val(1))))},
		{tupled(times(9, words)...), all(times(9, str("x"))...)},
	}
}

// What is handed in is not changed, nor what lies behind its lists read or written.
func TestWhatIsHandedIn(t *testing.T) {
	for _, x := range samples() {
		for _, n := range []int{1, 2, 9} {
			types := append(many(n, func() api.Type { return typeRoom(x.t) }), of(99), u8)[:n]
			l := append(many(n, func() api.Val { return room(x.v) }), val(-1), val(1))[:n]
			names := append(some(n), "", "no name")[:n]
			s := api.Sig{P: names, T: types, R: types[0]}
			h := heap(page(), 2, times(300, 512)...)
			core, trap := Lower(h.Heap, slices.Clone(l), types...)
			core = append(core, -1, -2)[:len(core)]
			args, stop := DownArgs(h.Heap, s, l...)
			args = append(args, -1, -2)[:len(args)]
			if trap != api.NoTrap || stop != api.NoTrap {
				t.Fatal(short(x.t), trap, stop)
			}
			was := []any{whole(s), whole(l), whole(core), whole(args), whole(names)}
			for range 2 {
				Lift(h.Heap, core, types...)
				Lower(h.Heap, l, types...)
				UpArgs(h.Heap, s, args...)
				DownArgs(h.Heap, s, l...)
				UpResult(h.Heap, s, core...)
				UpResult(h.Heap, s, core[:1]...)
				DownResult(h.Heap, s, l[0], 1024)
				Wide(s)
				Long(s)
				// And where they are refused.
				Lower(h.Heap, l[:n-1], types...)
				DownArgs(h.Heap, s, l[:n-1]...)
				Lift(h.Heap, core[1:], types...)
				Lower(nil, l, types...)
			}
			if now := []any{whole(s), whole(l), whole(core), whole(args), whole(names)}; !reflect.DeepEqual(now, was) {
				t.Error("changed", short(x.v))
			}
			// What is done with a list with room is what is done without.
			again, trap := Lower(heap(page(), 2, times(300, 512)...).Heap, many(n, func() api.Val { return x.v }), many(n, func() api.Type { return x.t })...)
			gotCore(t, again, trap, core, 0)
		}
	}
}

// What is answered shares no memory with what was given, nor with another answer, nor do two of its lists.
func TestOwnLists(t *testing.T) {
	type span struct{ from, to uintptr }
	for _, x := range samples() {
		var places []int
		for i := range 300 {
			places = append(places, 512+160*i)
		}
		h := heap(page(), 2, places...)
		types, vals := times(2, x.t), times(2, x.v)
		s := api.Sig{P: some(2), T: types, R: x.t}
		var answers []any
		for range 2 {
			core, _ := Lower(h.Heap, vals, types...)
			l, trap := Lift(h.Heap, core, types...)
			got(t, l, trap, vals, 0)
			args, _ := DownArgs(h.Heap, s, vals...)
			m, trap := UpArgs(h.Heap, s, args...)
			got(t, m, trap, vals, 0)
			gave, _ := DownResult(h.Heap, s, x.v, 64)
			up := gave
			if Long(s) {
				up = []int{64}
			}
			v, trap := UpResult(h.Heap, s, up...)
			got(t, []api.Val{v}, trap, []api.Val{x.v}, 0)
			answers = append(answers, core, l, args, m, gave, v)
		}
		var l []span
		for _, given := range []any{types[0], x.v, s.P, places} {
			arrays(reflect.ValueOf(given), func(from, to uintptr) { l = append(l, span{from, to}) })
		}
		for _, answer := range answers {
			arrays(reflect.ValueOf(answer), func(from, to uintptr) {
				for _, y := range l {
					if from < y.to && y.from < to {
						t.Error("shared", short(x.v))
					}
				}
				l = append(l, span{from, to})
			})
		}
	}
}

// Types and values without end are none; many types, and many core values, come to their end.
func TestNoEnd(t *testing.T) {
	v := all(val(0))
	v.L[0] = v
	x := list(u8)
	x.L[0] = x
	h := heap(page(), 0, times(300, 512)...)
	for _, y := range []api.Type{x, tupled(u8, x), option(x)} {
		for n := range 5 {
			l, trap := Lift(h.Heap, make([]int, n), y)
			got(t, l, trap, nil, api.TrapHost)
		}
		h.lowers(t, []api.Type{y}, []api.Val{v}, nil, api.TrapHost, nil)
		if Long(gives(y)) || Wide(takes(times(20, y)...)) {
			t.Error("long")
		}
	}
	h.lowers(t, []api.Type{deep(u8, 15)}, []api.Val{v}, nil, api.TrapHost, nil)
	h.lowers(t, []api.Type{list(u8)}, []api.Val{all(times(1<<20, val(1))...)}, nil, api.TrapHost, nil)
	l, trap := Lift(h.Heap, make([]int, 1<<20), times(1<<20, u8)...)
	got(t, l, trap, make([]api.Val, 1<<20), 0)
	core, trap := Lower(h.Heap, l, times(1<<20, u8)...)
	gotCore(t, core, trap, make([]int, 1<<20), 0)
	l, trap = Lift(h.Heap, make([]int, 1<<20), u8)
	got(t, l, trap, nil, api.TrapHost)
	l, trap = UpArgs(h.Heap, takes(u8), make([]int, 1<<20)...)
	got(t, l, trap, nil, api.TrapHost)
}
