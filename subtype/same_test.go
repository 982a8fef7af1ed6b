package subtype

import (
	"reflect"
	"slices"
	"testing"

	"scarf/api"
)

func TestExamples(t *testing.T) {
	same(t, own(0), own(2), true, 2)
	same(t, own(0), own(2), false)
}

// Each kind of type is itself, and no other one, in whatever it stands.
func TestKinds(t *testing.T) {
	ways := []func(api.Type) api.Type{
		func(x api.Type) api.Type { return x }, list, func(x api.Type) api.Type { return tuple(u8, x) }, func(x api.Type) api.Type { return tuple(x, u8) },
		func(x api.Type) api.Type { return by(api.TVariant, "abc", nothing, x, nothing) }, func(x api.Type) api.Type { return tuple(list(tuple(x)), text) },
	}
	l := kinds()
	others := copied(struct{ L []api.Type }{l}).L
	for i, a := range l {
		for k, b := range others {
			way := ways[(i+k)%len(ways)]
			same(t, a, b, i == k, 0)
			same(t, way(a), way(b), i == k, 0)
			sigs(t, fn("f", way(a)), fn("f", way(b)), i == k, 0)
			sigs(t, fn("f", u8, u8, way(a), u8), fn("f", u8, u8, way(b), u8), i == k, 0)
		}
		for _, way := range ways {
			same(t, way(a), way(others[i]), true, 0)
			same(t, way(a), way(others[i]), a.Kind != api.TOwn && a.Kind != api.TBorrow)
		}
	}
}

// Types are not the same, whichever field, at whichever place, is another one.
func TestEachField(t *testing.T) {
	inner := tuple(own(1), by(api.TRecord, "xyz", u8, list(lent(0)), text), by(api.TVariant, "xy", nothing, in(api.TResult, nothing, u16)), by(api.TEnum, "pq"), by(api.TFlags, "rs"), in(api.TOption, api.Type{Kind: api.TNamed, Names: []string{"t"}, R: 3}))
	for _, x := range []api.Type{u8, nothing, own(0), lent(1), list(u8), by(api.TEnum, "ab"), inner, list(list(inner)), tuple(inner, inner)} {
		n := 0
		y := copied(x)
		y0 := copied(x)
		changes(reflect.ValueOf(&y).Elem(), func() {
			n++
			same(t, x, y, false, 0, 1, 2)
			same(t, y, x, false, 0, 1, 2)
			for _, s := range []func(api.Type) api.Sig{func(x api.Type) api.Sig { return fn("f", x) }, func(x api.Type) api.Sig { return fn("f", nothing, u8, x) }} {
				sigs(t, s(x), s(y), false, 0, 1, 2)
				sigs(t, s(y), s(x), false, 0, 1, 2)
			}
		})
		if !reflect.DeepEqual(y, y0) || n < 10 {
			t.Error(short(x), n)
		}
		same(t, x, y, true, 0, 1)
	}
}

// A list that is empty is one that is nil.
func TestEmptyLists(t *testing.T) {
	for _, x := range []api.Type{u8, nothing, of(99), list(u8), by(api.TEnum, "a"), own(0)} {
		y := copied(x)
		z := copied(x)
		if len(x.L) == 0 {
			y.L, z.L = []api.Type{}, []api.Type{u8, u16}[:0]
		}
		if len(x.Names) == 0 {
			y.Names, z.Names = []string{}, []string{"a", "b"}[:0]
		}
		for _, a := range []api.Type{x, y, z} {
			for _, b := range []api.Type{x, y, z} {
				same(t, a, b, true, 0)
				same(t, list(a), list(b), true, 0)
				sigs(t, api.Sig{P: nil, T: []api.Type{}, R: a}, api.Sig{P: []string{}, R: b}, true, 0)
			}
		}
	}
	same(t, own(0), own(0), false, []int{0, 1}[:0]...)
}

// The number of a handle's resource is turned, that of others is not.
func TestNumbers(t *testing.T) {
	numbers := []int{-1 << 63, -2, -1, 0, 1, 2, 3, 4, 1 << 20, 1 << 32, 1<<63 - 1}
	for _, m := range [][]int{nil, {0}, {1}, {-1}, {2, 1, 0}, {0, 1, 2, 3}, {1, 1, 1}, {-1, 0, -1}, {-2, -1 << 63, 1<<63 - 1, 1 << 20}, {3, -1, 4, 0, 1}} {
		for _, i := range numbers {
			for _, k := range numbers {
				want := i >= 0 && i < len(m) && k >= 0 && slices.Equal(m[i:i+1], []int{k})
				for _, kind := range []int{api.TOwn, api.TBorrow} {
					a, b := api.Type{Kind: kind, R: i}, api.Type{Kind: kind, R: k}
					same(t, a, b, want, m...)
					same(t, tuple(u8, list(a)), tuple(u8, list(b)), want, m...)
					sigs(t, fn("f", a), fn("g", b), want, m...)
					sigs(t, fn("f", nothing, u8, a), fn("g", nothing, u8, b), want, m...)
					same(t, a, api.Type{Kind: api.TOwn + api.TBorrow - kind, R: k}, false, m...)
				}
				for _, kind := range []int{0, api.TU8, api.TList, api.TFlags, api.TNamed, 23, -1, 1 << 40} {
					same(t, api.Type{Kind: kind, R: i}, api.Type{Kind: kind, R: k}, i == k, m...)
					same(t, list(api.Type{Kind: kind, R: i}), list(api.Type{Kind: kind, R: k}), i == k, m...)
				}
			}
		}
	}
	// Names and what is within a handle's type count, too.
	named := func(r int, name string) api.Type { return api.Type{Kind: api.TOwn, Names: []string{name}, R: r} }
	same(t, named(0, "r"), named(1, "r"), true, 1)
	same(t, named(0, "r"), named(1, "s"), false, 1)
	same(t, named(0, "r"), own(1), false, 1)
	same(t, api.Type{Kind: api.TBorrow, L: []api.Type{own(1)}}, api.Type{Kind: api.TBorrow, L: []api.Type{own(0)}, R: 1}, true, 1, 0)
	same(t, api.Type{Kind: api.TBorrow, L: []api.Type{own(0)}}, api.Type{Kind: api.TBorrow, L: []api.Type{own(0)}, R: 1}, false, 1, 0)
	// Each by itself, in whatever order, some of them twice.
	same(t, tuple(own(0), lent(1), own(2), own(0)), tuple(own(2), lent(0), own(1), own(2)), true, 2, 0, 1)
	same(t, tuple(own(0), lent(1), own(2), own(0)), tuple(own(2), lent(0), own(1), own(0)), false, 2, 0, 1)
	same(t, tuple(own(0), own(1)), tuple(own(3), own(3)), true, 3, 3)
	same(t, tuple(own(0), own(0)), tuple(own(3), own(2)), false, 3, 2)
}

// The order of what is within counts, and that of names.
func TestOrder(t *testing.T) {
	same(t, tuple(u8, u16), tuple(u16, u8), false)
	same(t, by(api.TRecord, "ab", u8, u16), by(api.TRecord, "ba", u16, u8), false)
	same(t, by(api.TRecord, "ab", u8, u16), by(api.TRecord, "ab", u16, u8), false)
	same(t, by(api.TFlags, "ab"), by(api.TFlags, "ba"), false)
	same(t, api.Type{Kind: api.TEnum, Names: []string{"ab", "c"}}, api.Type{Kind: api.TEnum, Names: []string{"a", "bc"}}, false)
	same(t, tuple(tuple(u8, u8), u8), tuple(tuple(u8), u8, u8), false)
	same(t, tuple(u8, tuple()), tuple(u8), false)
	same(t, by(api.TRecord, "ab", u8, u16), tuple(u8, u16), false)
}

// A function's arguments' names and types, and what it gives, count; its name does not.
func TestSigs(t *testing.T) {
	f := fn("f", list(own(1)), u8, text, lent(0))
	g := fn("another", list(own(0)), u8, text, lent(1))
	sigs(t, f, g, true, 1, 0)
	sigs(t, f, g, false, 0, 1)
	sigs(t, f, g, false, 1)
	sigs(t, f, g, false)
	sigs(t, api.Sig{}, api.Sig{Name: "f"}, true)
	for _, x := range []api.Sig{{}, fn("f", u8), fn("f", nothing, u8), fn("f", u8, u16, text), f} {
		n := 0
		y := copied(x)
		for i := range 3 {
			changes([]reflect.Value{reflect.ValueOf(&y.P), reflect.ValueOf(&y.T), reflect.ValueOf(&y.R)}[i].Elem(), func() {
				n++
				sigs(t, x, y, false, 0, 1)
				sigs(t, y, x, false, 0, 1)
			})
		}
		if n < 8 {
			t.Error(n)
		}
		for _, name := range []string{"", "g", "f", "[method]r.f"} {
			y.Name = name
			sigs(t, x, y, true, 0, 1)
		}
	}
	// The names are asked for, one by one, and so are the types, whether there are as many or not.
	for _, s := range []api.Sig{{P: letters("ab")}, {T: []api.Type{u8}}, {P: letters("a"), T: []api.Type{u8, u16}}, {P: letters("ab"), T: []api.Type{u8}}, {P: []string{""}}, {T: []api.Type{nothing}}, {P: letters("aa"), T: []api.Type{u8, u8}}} {
		sigs(t, s, copied(s), true)
		for _, other := range []api.Sig{{}, {P: letters("a"), T: []api.Type{u8}}, {P: letters("ba")}, {P: letters("abc")}, {T: []api.Type{u16}}, {T: []api.Type{u8, u8}}, {P: letters("ab"), T: []api.Type{u8, u16}}} {
			sigs(t, s, other, false)
			sigs(t, other, s, false)
		}
	}
	// What is an argument is not what is given.
	sigs(t, fn("f", u8), fn("f", nothing, u8), false)
	sigs(t, fn("f", nothing, u8, u16), fn("f", nothing, u16, u8), false)
	sigs(t, api.Sig{P: letters("ab"), T: []api.Type{u8, u8}}, api.Sig{P: letters("ba"), T: []api.Type{u8, u8}}, false)
}
