package value

import (
	"reflect"
	"slices"
	"testing"

	"scarf/api"
)

// sample is a type and a value of it.
type sample struct {
	t api.Type
	v api.Val
}

func samples() []sample {
	var l []sample
	for _, x := range holders {
		l = append(l, sample{x.t, x.v})
	}
	rest := []sample{
		{words, str(`a"é`)}, {list(words), all(str("a"), str(""))}, {tuple(words, own(1), list(lent(2))), all(str("ab"), num(3), all(num(4), num(5)))},
		{record(flags(9), enum(3), option(words), result(own(1), nothing)), all(num(511), num(2), sum(1, str("a")), sum(0, num(9)))},
		{variant(nothing, tuple(words, own(3))), sum(1, all(str("abc"), num(1<<32-1)))},
	}
	return append(l, rest...)
}

// room gives each list of a value room behind it, in which there is something.
func room(v api.Val) api.Val {
	s := slices.Clone(v.S)
	l := []api.Val{}
	for _, x := range v.L {
		l = append(l, room(x))
	}
	v.S = append(s, -1, 0xD800)[:len(s)]
	v.L = append(l, num(-7), str("no"))[:len(l)]
	return v
}

// typeRoom does so to a type.
func typeRoom(t api.Type) api.Type {
	l := []api.Type{}
	for _, x := range t.L {
		l = append(l, typeRoom(x))
	}
	names := slices.Clone(t.Names)
	t.L = append(l, of(99), list(u64))[:len(l)]
	t.Names = append(names, "", "no name")[:len(names)]
	return t
}

// behind tells a thing with what lies behind its lists.
func behind(v reflect.Value) any {
	switch v.Kind() {
	case reflect.Struct:
		var l []any
		for i := range v.NumField() {
			l = append(l, behind(v.Field(i)))
		}
		return l
	case reflect.Slice:
		l := []any{v.Len()}
		all := v.Slice(0, v.Cap())
		for i := range all.Len() {
			l = append(l, behind(all.Index(i)))
		}
		return l
	}
	return v.Interface()
}

func whole(x any) any { return behind(reflect.ValueOf(x)) }

// What is handed in is not changed, nor what lies behind its lists read or written.
func TestWhatIsHandedIn(t *testing.T) {
	for _, x := range samples() {
		y := sample{typeRoom(x.t), room(x.v)}
		types, n := Handles(x.t, x.v)
		text, _ := Text(x.t, x.v)
		given := append(slices.Clone(n), -1, 7)[:len(n)]
		s := sig(y.t, y.t)
		l := append([]api.Val{y.v, y.v}, num(9))[:2]
		was := []any{whole(y.t), whole(y.v), whole(given), whole(l), whole(s)}
		for range 2 {
			if Check(y.t, y.v) != api.OK || !Same(x.v, y.v) || !Same(y.v, x.v) || Args(s, l...) != Args(sig(x.t, x.t), x.v, x.v) {
				t.Error(short(x.v))
			}
			a, b := Handles(y.t, y.v)
			w, e := With(y.t, y.v, given...)
			z, f := Text(y.t, y.v)
			if !sameTypes(a, types) || !slices.Equal(b, n) || e != api.OK || !equal(w, x.v) || f != api.OK || z != text {
				t.Error(short(x.v), a, b, e, short(w), f, z)
			}
			// Of what is refused, too.
			no(t, y.t, sum(-5, y.v))
			With(y.t, y.v, append(given, 1)[:len(given)+1]...)
			given = append(slices.Clone(n), -1, 7)[:len(n)]
		}
		if now := []any{whole(y.t), whole(y.v), whole(given), whole(l), whole(s)}; !reflect.DeepEqual(now, was) {
			t.Error("changed", short(x.v))
		}
	}
}

// arrays goes through what lies behind all of a thing's lists, with their room.
func arrays(v reflect.Value, seen func(from, to uintptr)) {
	switch v.Kind() {
	case reflect.Struct:
		for i := range v.NumField() {
			arrays(v.Field(i), seen)
		}
	case reflect.Slice:
		if v.Cap() > 0 {
			from := v.Pointer()
			seen(from, from+uintptr(v.Cap())*v.Type().Elem().Size())
		}
		for i := range v.Len() {
			arrays(v.Index(i), seen)
		}
	}
}

// What is answered shares no memory with what was given, nor with another answer, nor do two of its lists.
func TestOwnLists(t *testing.T) {
	type span struct{ from, to uintptr }
	for _, x := range append(samples(), sample{list(u8), api.Val{L: []api.Val{}}}, sample{list(words), all(times(3, str("ab"))...)}, sample{list(tuple(words, own(1))), all(times(3, all(str("ab"), num(1)))...)}) {
		types, n := Handles(x.t, x.v)
		more, again := Handles(x.t, x.v)
		a, e := With(x.t, x.v, n...)
		b, f := With(x.t, x.v, again...)
		if e != api.OK || f != api.OK {
			t.Error(e, f)
		}
		var l []span
		for _, answer := range []any{types, n, more, again, a, b} {
			arrays(reflect.ValueOf(answer), func(from, to uintptr) {
				for _, y := range l {
					if from < y.to && y.from < to {
						t.Error("shared", short(x.v))
					}
				}
				l = append(l, span{from, to})
			})
		}
		for _, given := range []any{x.t, x.v} {
			arrays(reflect.ValueOf(given), func(from, to uintptr) {
				for _, y := range l {
					if from < y.to && y.from < to {
						t.Error("shared with what was given", short(x.v))
					}
				}
			})
		}
	}
}

// What is made of one value does not change with what is made of another one.
func TestOwnAnswers(t *testing.T) {
	x := tuple(words, list(own(1)))
	v := all(str("ab"), all(num(1), num(2)))
	a, _ := With(x, v, 3, 4)
	b, _ := With(x, v, 5, 6)
	a.L[0].S[0] = 'z'
	a.L[1].L[0].N = 9
	types, n := Handles(x, b)
	n[0], types[0].Kind = 99, 99
	if !equal(v, all(str("ab"), all(num(1), num(2)))) || !equal(b, all(str("ab"), all(num(5), num(6)))) {
		t.Error(v, b)
	}
}
