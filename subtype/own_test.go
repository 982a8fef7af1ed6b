package subtype

import (
	"reflect"
	"slices"
	"testing"

	"scarf/api"
)

// roomy gives each list of a thing room behind it, in which there is what counts if it is read.
func roomy(v reflect.Value) {
	switch v.Kind() {
	case reflect.Struct:
		for i := range v.NumField() {
			roomy(v.Field(i))
		}
	case reflect.Slice:
		l := reflect.MakeSlice(v.Type(), v.Len()+3, v.Len()+3)
		reflect.Copy(l, v)
		for i := range v.Len() {
			roomy(l.Index(i))
		}
		for i := v.Len(); i < l.Len(); i++ {
			if i%2 == 0 && v.Len() > 0 {
				l.Index(i).Set(v.Index(0))
			}
		}
		v.Set(l.Slice(0, v.Len()))
	}
}

// behind tells all that stands in a thing's lists, and behind their length.
func behind(v reflect.Value) []any {
	var out []any
	switch v.Kind() {
	case reflect.Struct:
		for i := range v.NumField() {
			out = append(out, behind(v.Field(i))...)
		}
	case reflect.Slice:
		whole := v.Slice(0, v.Cap())
		out = append(out, v.Len(), whole.Len())
		for i := range whole.Len() {
			out = append(out, behind(whole.Index(i))...)
		}
	default:
		out = append(out, v.Interface())
	}
	return out
}

// What is handed in is not changed, nor what lies behind its lists read or written.
func TestWhatIsHandedIn(t *testing.T) {
	for seed := range int64(300) {
		m := newMaker(seed)
		x := []api.Contract{m.contract(), m.contract()}
		y := copied(x)
		roomy(reflect.ValueOf(&y).Elem())
		by := []int{2, 1, 0, 3, 3, -1}[:m.Intn(5)]
		before := behind(reflect.ValueOf(y))
		numbers := slices.Clone(by[:cap(by)])
		for range 2 {
			for i := range x {
				for k := range x {
					fits(t, y[i], y[k], Fits(x[i], x[k]))
					links(t, y[i], y[k], Links(x[i], x[k]))
					for j, f := range x[i].Ins {
						for n, g := range x[k].Ins {
							sigs(t, y[i].Ins[j], y[k].Ins[n], Sigs(f, g, by...), by...)
							same(t, y[i].Ins[j].R, y[k].Ins[n].R, Same(f.R, g.R, by...), by...)
						}
					}
				}
			}
		}
		if !reflect.DeepEqual(before, behind(reflect.ValueOf(y))) || !slices.Equal(numbers, by[:cap(by)]) {
			t.Error("changed", short(x))
		}
	}
}

// Lists that are nil, and empty, are the same, and no contract is one of nothing.
func TestNilLists(t *testing.T) {
	f := fn("f", u8)
	for _, none := range []api.Contract{{}, {Res: []string{}, Ins: []api.Sig{}, Outs: []api.Sig{}}, {Res: letters("x")[:0], Ins: fns(f)[:0], Outs: fns(f)[:0]}} {
		for _, other := range []api.Contract{{}, none, {Res: letters("x")}} {
			fits(t, none, other, api.OK)
			fits(t, other, none, api.OK)
			links(t, none, other, api.OK)
			links(t, other, none, api.OK)
		}
		fits(t, none, exports(f), api.ErrName)
		fits(t, imports(f), none, api.ErrName)
		links(t, imports(f), none, api.ErrName)
	}
}

// Lists may share what is in them, in one type and with the other one: that is not told.
func TestSharedLists(t *testing.T) {
	count := map[bool]int{}
	for seed := range int64(2000) {
		m := newMaker(seed)
		pool := []api.Type{u8, own(0), own(1), u8, own(1)}
		m.Shuffle(len(pool), func(i, k int) { pool[i], pool[k] = pool[k], pool[i] })
		pool = slices.Grow(pool, 10)
		for range 6 { // what is within lies ahead of it
			from := m.Intn(len(pool))
			x := tuple()
			x.L = pool[from:min(len(pool), from+m.Intn(3))]
			pool = append(pool, x)
		}
		by := one(m, []int{0, 1}, []int{1, 0}, []int{1, 1})
		for i, a := range pool {
			for k, b := range pool[i:] {
				want := plainSame(copied(a), copied(b), by)
				if k > 0 && len(a.L) > 0 {
					count[want]++
				}
				same(t, a, b, want, by...)
				f, g := fn("f", a, a, b), fn("f", b, b, b)
				sigs(t, f, g, plainSigs(copied(f), copied(g), by), by...)
			}
		}
	}
	t.Log(count)
	if count[true] < 500 || count[false] < 5000 {
		t.Error(count)
	}
	l := []api.Type{u8}
	same(t, tuple(tuple(l...), tuple(l...)), tuple(tuple(u8), tuple(u8)), true)
	same(t, tuple(tuple(l...), tuple(l...)), tuple(tuple(u8), tuple(u16)), false)
	same(t, tuple(tuple(l...), tuple(l...)), tuple(tuple(u16), tuple(u8)), false)
	same(t, tuple(tuple(u8), tuple(u16)), tuple(tuple(l...), tuple(l...)), false)
	same(t, tuple(tuple(u16), tuple(u8)), tuple(tuple(l...), tuple(l...)), false)
}

// ask asks for types in all ways.
func ask(t *testing.T, a, b api.Type, want bool) {
	t.Helper()
	if Same(a, b, 0, 1) != want || Same(b, a, 0, 1) != want || Sigs(fn("f", a, b), fn("f", b, a), 0, 1) != want || Sigs(fn("f", u8, a, u8), fn("g", u8, b, u8), 0, 1) != want {
		t.Error(a.Kind, b.Kind, want)
	}
	e := api.OK
	if !want {
		e = api.ErrType
	}
	f, g := fn("f", a), fn("f", b)
	if Fits(imports(f), imports(g)) != e || Fits(exports(f), exports(g)) != e || Links(imports(f), exports(g)) != e {
		t.Error(a.Kind, b.Kind, want)
	}
}

// What is great, and what stands very deep, comes to an end.
func TestGreat(t *testing.T) {
	for _, x := range []struct {
		a, b api.Type
		want bool
	}{{u8, u8, true}, {own(0), own(0), true}, {u8, u16, false}, {own(0), own(1), false}, {u8, list(u8), false}} {
		ask(t, deep(x.a, 60000), deep(x.b, 60000), x.want)
		ask(t, tuple(append(times(60000, u8), x.a)...), tuple(append(times(60000, u8), x.b)...), x.want)
		// Types that stand in many places: 2^64 of them in all.
		a, b := x.a, x.b
		for range 64 {
			a, b = tuple(a, a), tuple(b, b)
		}
		ask(t, a, b, x.want)
	}
	l := some("f", 60000)
	ask(t, api.Type{Kind: api.TEnum, Names: l}, api.Type{Kind: api.TEnum, Names: some("f", 60000)}, true)
	ask(t, api.Type{Kind: api.TEnum, Names: l}, api.Type{Kind: api.TEnum, Names: append(some("f", 59999), "f")}, false)
	// Many functions, of many resources.
	var a, b api.Contract
	for i, name := range l {
		a.Ins = append(a.Ins, fn(name, own(i)))
		b.Outs = append(b.Outs, fn(l[len(l)-1-i], own(i)))
		a.Res = append(a.Res, "import "+name)
		b.Res = append(b.Res, "export "+l[len(l)-1-i])
	}
	if Links(a, b) != api.OK || Fits(a, a) != api.OK || Fits(b, b) != api.OK || Fits(a, b) != api.ErrName || Links(b, a) != api.OK {
		t.Error("many functions")
	}
	b.Outs[0].R.R++
	if Links(a, b) != api.ErrType {
		t.Error("many functions")
	}
}

// Types that have themselves within have no end: there is an answer all the same.
func TestTypesWithoutEnd(t *testing.T) {
	var l []api.Type
	for _, x := range []api.Type{list(u8), tuple(u8, u8), tuple(times(64, u8)...), by(api.TVariant, "ab", u8, u8), {L: times(2, u8)}, {Kind: 99, L: times(3, u8)}, {Kind: api.TOwn, L: times(1, u8)}} {
		for i := range x.L {
			x.L[i] = x
		}
		l = append(l, x, list(x), list(list(x)), tuple(x, x))
	}
	for _, a := range l {
		for _, b := range append(l, u8, list(u8), deep(u8, 100), tuple(u8, u8)) {
			got := Same(a, b, 0)
			if Same(a, b, 0) != got || Same(b, a, 0) != got || Sigs(fn("f", a, b), fn("f", b, a), 0) != got {
				t.Error(a.Kind, b.Kind)
			}
			f, g := fn("f", a), fn("f", b)
			if Fits(imports(f), imports(g)) == api.OK != got || Links(imports(f), exports(g)) == api.OK != got {
				t.Error(a.Kind, b.Kind)
			}
		}
		if Same(a, u8, 0) || Same(a, deep(u8, 100), 0) {
			t.Error(a.Kind)
		}
	}
}
