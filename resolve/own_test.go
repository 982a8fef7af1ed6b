package resolve

import (
	"math/rand"
	"reflect"
	"slices"
	"strconv"
	"strings"
	"testing"

	"scarf/api"
)

// Packages with all kinds of things, of which the world w comes to all kinds of types.
var full = []string{`package a:b@1.0.0;
interface types { resource r { constructor(x: u8, y: list<e>); m: func(x: r, p: p) -> p; s: static func(v: v) -> g; } record p { a: u8, b: list<e>, c: option<tuple<e, g>> } variant v { x, y(e), z(p) } enum e { one, two } flags g { one, two } type t = tuple<p, v>; f: func(x: t, y: t, z: borrow<r>) -> result<p, e>; }
interface more { use types.{p as q, r, t}; use c:d/far@2.0.0 .{z}; f: func(a: q, b: own<r>, c: t, d: z) -> list<z>; g: func(a: e); enum e { one, two } }
world w { use types.{p, e}; import types; import more; import f: func(x: p, y: e) -> e; export more; export types; export f: func(x: p, y: e) -> p; }`,
	`package c:d@2.0.0; interface far { use a:b/types@1.0.0 .{e}; record z { a: e, b: s } resource s; }`}

// arrays goes through what lies behind all of a thing's lists, with their room.
func arrays(v reflect.Value, seen func(from, to uintptr)) {
	switch v.Kind() {
	case reflect.Struct:
		for i := range v.NumField() {
			arrays(v.Field(i), seen)
		}
	case reflect.Slice:
		if v.Cap() > 0 {
			from := v.Pointer()
			seen(from, from+uintptr(v.Cap())*v.Type().Elem().Size())
		}
		for i := range v.Len() {
			arrays(v.Index(i), seen)
		}
	}
}

// What is answered shares no memory with what was given, nor with another answer, nor do two of its lists.
func TestOwnLists(t *testing.T) {
	all := packs(t, full...)
	c, e := World(all, 0, "w")
	d, f := World(all, 0, "w")
	if e != api.OK || f != api.OK {
		t.Fatal(e, f)
	}
	type span struct{ from, to uintptr }
	var l []span
	seen := func(from, to uintptr) {
		for _, x := range l {
			if from < x.to && x.from < to {
				t.Error("shared")
			}
		}
		l = append(l, span{from, to})
	}
	arrays(reflect.ValueOf(c), seen)
	arrays(reflect.ValueOf(d), seen)
	some := len(l)
	given := func(from, to uintptr) {
		for _, x := range l[:some] {
			if from < x.to && x.from < to {
				t.Error("shared with what was given")
			}
		}
	}
	arrays(reflect.ValueOf(all), given)
	if some < 300 {
		t.Error(some)
	}
}

// scribble changes all that a thing's lists have, and leaves no two alike.
func scribble(v reflect.Value) {
	switch v.Kind() {
	case reflect.Struct:
		for i := range v.NumField() {
			scribble(v.Field(i))
		}
	case reflect.Slice:
		for i := range v.Len() {
			scribble(v.Index(i))
		}
	case reflect.Int:
		v.SetInt(v.Int() + 100)
	case reflect.String:
		v.SetString(v.String() + "x")
	}
}

func TestOwnAnswers(t *testing.T) {
	all, again := packs(t, full...), packs(t, full...)
	c, _ := World(all, 0, "w")
	kept, _ := World(all, 0, "w")
	scribble(reflect.ValueOf(&c).Elem())
	if d, _ := World(all, 0, "w"); !sameContracts(d, kept) || sameContracts(c, kept) || !same(reflect.ValueOf(all), reflect.ValueOf(again)) {
		t.Error("an answer is not the asker's own")
	}
	scribble(reflect.ValueOf(all))
	if d, _ := World(again, 0, "w"); !sameContracts(d, kept) {
		t.Error("what is answered is what was given")
	}
}

// roomy copies a thing so that behind each list's length there is what may not be.
func roomy(v reflect.Value) {
	switch v.Kind() {
	case reflect.Struct:
		for i := range v.NumField() {
			roomy(v.Field(i))
		}
	case reflect.Slice:
		l := reflect.MakeSlice(v.Type(), v.Len()+3, v.Len()+3)
		reflect.Copy(l, v)
		for i := v.Len(); i < l.Len(); i++ {
			scribble(l.Index(i))
		}
		for i := range v.Len() {
			roomy(l.Index(i))
		}
		v.Set(l.Slice(0, v.Len()))
	}
}

// behind tells all that stands in a thing's lists, and behind their length.
func behind(v reflect.Value) []any {
	var out []any
	switch v.Kind() {
	case reflect.Struct:
		for i := range v.NumField() {
			out = append(out, behind(v.Field(i))...)
		}
	case reflect.Slice:
		whole := v.Slice(0, v.Cap())
		out = append(out, v.Len(), whole.Len())
		for i := range whole.Len() {
			out = append(out, behind(whole.Index(i))...)
		}
	default:
		out = append(out, v.Interface())
	}
	return out
}

func TestKeepsArguments(t *testing.T) {
	all := packs(t, full...)
	want, _ := World(all, 0, "w")
	roomy(reflect.ValueOf(&all).Elem())
	before := behind(reflect.ValueOf(all))
	for range 2 {
		c, e := World(all, 0, "w")
		if e != api.OK || !sameContracts(c, want) {
			t.Error(e)
		}
		for pkg := -1; pkg < 4; pkg++ {
			World(all, pkg, "v")
		}
		if !reflect.DeepEqual(before, behind(reflect.ValueOf(all))) {
			t.Error("changed")
		}
	}
	for seed := range int64(300) {
		m := &maker{Rand: rand.New(rand.NewSource(seed)), miss: 10}
		all := m.packages()
		roomy(reflect.ValueOf(&all).Elem())
		before := behind(reflect.ValueOf(all))
		World(all, 0, "w")
		if !reflect.DeepEqual(before, behind(reflect.ValueOf(all))) {
			t.Error("changed")
		}
	}
}

// The same is answered again, whatever was asked for in between.
func TestSameAgain(t *testing.T) {
	all := packs(t, full...)
	want, _ := World(all, 0, "w")
	for seed := range int64(200) {
		m := &maker{Rand: rand.New(rand.NewSource(seed)), miss: 20}
		other := m.packages()
		c, e := World(other, 0, "w")
		if d, _ := World(all, 0, "w"); !sameContracts(d, want) {
			t.Fatal("not the same again")
		}
		if d, f := World(other, 0, "w"); e != f || !sameContracts(c, d) {
			t.Fatal("not the same again")
		}
	}
}

// Lists that are empty, and nil, are the same.
func TestNilLists(t *testing.T) {
	all := []api.Package{{Space: "a", Name: "b", Ifaces: []api.Iface{{Name: "i", Uses: []api.Use{}, Defs: []api.Def{{Kind: api.DefType, Name: "t", T: api.Type{Kind: api.TResult, Names: []string{}, L: []api.Type{{}, {Names: []string{}, L: []api.Type{}}}}}},
		F: []api.Func{{Name: "f", P: []string{}, T: []api.Type{}, R: api.Type{Names: []string{}, L: []api.Type{}}}, {Name: "g", P: []string{"x"}, T: []api.Type{{Kind: api.TNamed, Names: []string{"t"}, L: []api.Type{}}}}}}},
		Worlds: []api.World{{Name: "w", Ins: []api.Port{}, Outs: []api.Port{{From: api.Path{Name: "i"}}}}}}}
	is(t, all, 0, "w", "out a:b/i#f()", "out a:b/i#g(x: result<_, _>)")
}

// spoil changes a field, or a list, anywhere in a thing.
func (m *maker) spoil(v reflect.Value) {
	switch v.Kind() {
	case reflect.Struct:
		m.spoil(v.Field(m.Intn(v.NumField())))
	case reflect.Slice:
		switch {
		case v.Len() > 0 && m.Intn(4) > 0:
			m.spoil(v.Index(m.Intn(v.Len())))
		case v.Len() > 0 && m.Intn(2) == 0:
			v.Set(v.Slice(0, v.Len()-1))
		case v.Len() > 0 && m.Intn(2) == 0:
			v.Set(reflect.Append(v, v.Index(0)))
		default:
			v.Set(reflect.Append(v, reflect.Zero(v.Type().Elem())))
		}
	case reflect.Int:
		v.SetInt(of(m, 0, 0, 1, 2, 3, -1, 1<<40, int64(m.Intn(24)), v.Int()+1))
	case reflect.String:
		v.SetString(of(m, "", "a", "self", "a:b", "1.0.0", "i0", "i1", "t0", "r0", m.any()))
	}
}

// Whatever is given, there is an answer, and it is what the second resolver says.
func TestCalm(t *testing.T) {
	count := map[api.Errno]int{}
	for seed := range int64(15000) {
		m := &maker{Rand: rand.New(rand.NewSource(seed)), miss: 100}
		all := m.packages()
		for range 1 + m.Intn(3) {
			m.spoil(reflect.ValueOf(&all).Elem())
		}
		for _, pkg := range []int{0, len(all) - 1, m.Intn(5) - 1} {
			_, e := held(t, all, pkg, of(m, "w", "w", "w", "v", ""))
			count[e]++
		}
	}
	t.Log(count)
	if count[api.OK] < 1000 || count[api.ErrArg] < 1000 || count[api.ErrDup] < 100 || count[api.ErrName] < 1000 {
		t.Error(count)
	}
}

// What is as great as it may be comes to an end.
func TestGreat(t *testing.T) {
	// In each name there are two of the next one: 2^64 of the last one in all.
	double := ""
	for i := range 63 {
		double += "type t" + strconv.Itoa(i) + " = tuple<t" + strconv.Itoa(i+1) + ", t" + strconv.Itoa(i+1) + ">; "
	}
	fails(t, api.ErrFull, one("interface i { "+double+"type t63 = u8; f: func(x: t0); } world w { import i; }")...)
	fails(t, api.ErrFull, one("interface i { "+double+"type t63 = u8; } interface j { use i.{t1}; f: func(x: own<t1>); } world w { import j; }")...)
	// As many functions as a world's ports may have, all of them of many types.
	u8 := api.Type{Kind: api.TU8}
	wide := api.Type{Kind: api.TTuple, L: slices.Repeat([]api.Type{u8}, 60)}
	f := api.Func{Kind: api.FuncStatic, P: strings.Split("a b c d e f g h", " "), T: slices.Repeat([]api.Type{wide}, 8)}
	d := api.Def{Kind: api.DefResource}
	for i := range 64 {
		f.Name = "f" + strconv.Itoa(i)
		d.F = append(d.F, f)
	}
	i := api.Iface{Name: "i"}
	for k := range 64 {
		d.Name = "r" + strconv.Itoa(k)
		i.Defs = append(i.Defs, d)
	}
	p := api.Package{Space: "a", Name: "b", Ifaces: []api.Iface{i}, Worlds: []api.World{{Name: "w"}, {Name: "v", Ins: []api.Port{{From: api.Path{Name: "i"}}}}}}
	for range 8 {
		p.Worlds[0].Outs = append(p.Worlds[0].Outs, api.Port{From: api.Path{Name: "i"}})
	}
	faults(t, "many functions", []api.Package{p}, 0, "w", api.ErrDup)
	faults(t, "many functions", []api.Package{p}, 0, "v", api.ErrFull)
}
