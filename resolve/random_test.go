package resolve

import (
	"math/rand"
	"reflect"
	"slices"
	"strconv"
	"strings"
	"testing"

	"scarf/api"
	"scarf/wit"
)

// maker makes packages by chance: most of their names are there, and what is there stands for something.
type maker struct {
	*rand.Rand
	all  []api.Package
	miss int // one of so many names is any one
}

func of[T any](m *maker, l ...T) T { return l[m.Intn(len(l))] }

func some[T any](m *maker, least, most int, thing func() T) []T {
	var l []T
	for range least + m.Intn(most-least+1) {
		l = append(l, thing())
	}
	return l
}

func (m *maker) any() string { return of(m, "a", "b", "c", "d", "self", "r", "s") }

// names makes some names that differ, most often.
func (m *maker) names(least, most int) []string {
	l := some(m, least, most, m.any)
	if m.Intn(m.miss) > 0 {
		for i := range l {
			l[i] = "x" + strconv.Itoa(i)
		}
	}
	return l
}

// typ makes a type of a scope's names, within which there are others as often as told, at most.
func (m *maker) typ(names []string, left int) api.Type {
	kind := of(m, api.TBool, api.TU8, api.TString, api.TNamed, api.TNamed, api.TNamed, api.TOwn, api.TBorrow)
	if left > 0 && m.Intn(2) == 0 {
		kind = of(m, api.TList, api.TOption, api.TTuple, api.TResult)
	}
	t := api.Type{Kind: kind}
	in := func() api.Type { return m.typ(names, left-1) }
	switch kind {
	case api.TNamed, api.TOwn, api.TBorrow:
		s := m.any()
		if m.Intn(m.miss) > 0 {
			if len(names) == 0 {
				return api.Type{Kind: api.TU16}
			}
			s = of(m, names...)
		}
		if kind != api.TNamed && m.Intn(m.miss) > 0 { // a resource, by its name
			l := slices.DeleteFunc(slices.Clone(names), func(s string) bool { return s[0] != 'r' })
			if len(l) == 0 {
				return api.Type{Kind: api.TU8}
			}
			s = of(m, l...)
		}
		t.Names = []string{s}
	case api.TList, api.TOption:
		t.L = []api.Type{in()}
	case api.TTuple:
		t.L = some(m, 1, 3, in)
	case api.TResult:
		t.L = []api.Type{m.orNone(names, left-1), m.orNone(names, left-1)}
	}
	return t
}

func (m *maker) orNone(names []string, left int) api.Type {
	if m.Intn(2) == 0 {
		return api.Type{}
	}
	return m.typ(names, left)
}

func (m *maker) function(names []string, name string, kind int) api.Func {
	f := api.Func{Kind: kind, P: m.names(0, 3)}
	for range f.P {
		f.T = append(f.T, m.typ(names, 2))
	}
	if kind != api.FuncMake {
		f.Name = name
		f.R = m.orNone(names, 2)
		for m.Intn(m.miss) > 0 && lendsAny(f.R) {
			f.R = m.orNone(names, 2)
		}
	}
	return f
}

func lendsAny(t api.Type) bool {
	return t.Kind == api.TBorrow || slices.ContainsFunc(t.L, lendsAny)
}

func (m *maker) def(names []string, name string) api.Def {
	d := api.Def{Kind: of(m, api.DefType, api.DefType, api.DefType, api.DefRecord, api.DefVariant, api.DefEnum, api.DefFlags), Name: name}
	if name[0] == 'r' {
		d.Kind = api.DefResource
	}
	of := m.names(1, 3)
	switch d.Kind {
	case api.DefType:
		d.T = m.typ(names, 2)
	case api.DefRecord:
		d.T = api.Type{Kind: api.TRecord, Names: of}
		for range of {
			d.T.L = append(d.T.L, m.typ(names, 2))
		}
	case api.DefVariant:
		d.T = api.Type{Kind: api.TVariant, Names: of}
		for range of {
			d.T.L = append(d.T.L, m.orNone(names, 2))
		}
	case api.DefEnum:
		d.T = api.Type{Kind: api.TEnum, Names: of}
	case api.DefFlags:
		d.T = api.Type{Kind: api.TFlags, Names: of}
	case api.DefResource:
		for i := range m.Intn(4) {
			d.F = append(d.F, m.function(append(names, name), "m"+strconv.Itoa(i), 1+m.Intn(2)))
		}
		if m.Intn(2) == 0 {
			d.F = append(d.F, m.function(append(names, name), "", api.FuncMake))
		}
		if len(d.F) > 1 && m.Intn(2*m.miss) == 0 {
			d.F = append(d.F, d.F[m.Intn(len(d.F))])
		}
	}
	return d
}

// path makes a path to an interface, most often one that is there already.
func (m *maker) path(pkg int) (api.Path, api.Iface) {
	k := m.Intn(len(m.all))
	if m.Intn(3) == 0 {
		k = pkg
	}
	p := m.all[k]
	if len(p.Ifaces) == 0 || m.Intn(2*m.miss) == 0 {
		return api.Path{Pkg: of(m, "", "a:b", "a:c"), Name: of(m, "i0", "i1", "i2", "nothing")}, api.Iface{}
	}
	i := of(m, p.Ifaces...)
	if k == pkg && m.Intn(2) == 0 {
		return api.Path{Name: i.Name}, i
	}
	return api.Path{Pkg: p.Space + ":" + p.Name, Version: p.Version, Name: i.Name}, i
}

// body makes what is used, and what is defined.
func (m *maker) body(pkg, most int) ([]api.Use, []api.Def, []string) {
	var uses []api.Use
	var defs []api.Def
	var names []string
	for range m.Intn(3) {
		from, i := m.path(pkg)
		var l []string
		for _, d := range i.Defs {
			l = append(l, d.Name)
		}
		for _, v := range i.Uses {
			for k := range v.Names {
				l = append(l, as(v, k))
			}
		}
		if len(l) == 0 && m.Intn(m.miss) > 0 {
			continue
		}
		u := api.Use{From: from}
		for range 1 + m.Intn(3) {
			name := m.any()
			if len(l) > 0 && m.Intn(2*m.miss) > 0 {
				name = of(m, l...)
			}
			u.Names = append(u.Names, name)
			other := strconv.Itoa(len(names)) + m.any()[:1]
			if m.Intn(2*m.miss) == 0 {
				u.As = append(u.As, "")
				names = append(names, name)
			} else {
				other = name[:1] + "u" + other
				u.As = append(u.As, other)
				names = append(names, other)
			}
		}
		uses = append(uses, u)
	}
	for i := range m.Intn(most) {
		name := of(m, "r", "t", "t", "t") + strconv.Itoa(i)
		if m.Intn(3*m.miss) == 0 && len(names) > 0 {
			name = of(m, names...)
		}
		defs = append(defs, m.def(names, name))
		names = append(names, name)
	}
	return uses, defs, names
}

func (m *maker) iface(pkg int, name string) api.Iface {
	i := api.Iface{Name: name}
	var names []string
	i.Uses, i.Defs, names = m.body(pkg, 6)
	for k := range m.Intn(4) {
		i.F = append(i.F, m.function(names, "f"+strconv.Itoa(k), api.FuncFree))
	}
	if m.Intn(4*m.miss) == 0 {
		i.F = append(i.F, m.function(names, of(m, append(names, "f0")...), api.FuncFree))
	}
	m.Shuffle(len(i.Defs), func(x, y int) { i.Defs[x], i.Defs[y] = i.Defs[y], i.Defs[x] })
	return i
}

func (m *maker) ports(pkg int, names []string) []api.Port {
	var l []api.Port
	for k := range m.Intn(4) {
		from, _ := m.path(pkg)
		p := api.Port{From: from}
		if m.Intn(3) == 0 {
			p = api.Port{F: m.function(names, "p"+strconv.Itoa(k), api.FuncFree)}
		}
		if !slices.ContainsFunc(l, func(q api.Port) bool { return q.From != (api.Path{}) && q.From.Name == p.From.Name }) || m.Intn(m.miss) == 0 {
			l = append(l, p)
		}
	}
	return l
}

// packages makes some of them, of which each may use those ahead of it, and what it has already.
func (m *maker) packages() []api.Package {
	m.all = nil
	for n := range 1 + m.Intn(3) {
		p := api.Package{Space: "a", Name: of(m, "b", "c"), Version: of(m, "", "1.0.0")}
		if m.Intn(2*m.miss) > 0 {
			p.Version = []string{"", "0.1.0", "0.2.0"}[n]
		}
		m.all = append(m.all, p)
		for i := range m.Intn(4) {
			name := "i" + strconv.Itoa(i)
			if m.Intn(m.miss) == 0 {
				name = "i0"
			}
			m.all[n].Ifaces = append(m.all[n].Ifaces, m.iface(n, name))
		}
		for range 1 + m.Intn(2) {
			w := api.World{Name: of(m, "w", "w", "v")}
			var names []string
			w.Uses, w.Defs, names = m.body(n, 3)
			w.Ins, w.Outs = m.ports(n, names), m.ports(n, names)
			m.all[n].Worlds = append(m.all[n].Worlds, w)
		}
	}
	return m.all
}

// same tells whether two things are the same, nil and empty lists being so.
func same(a, b reflect.Value) bool {
	switch a.Kind() {
	case reflect.Struct:
		for i := range a.NumField() {
			if !same(a.Field(i), b.Field(i)) {
				return false
			}
		}
		return true
	case reflect.Slice:
		if a.Len() != b.Len() {
			return false
		}
		for i := range a.Len() {
			if !same(a.Index(i), b.Index(i)) {
				return false
			}
		}
		return true
	}
	return a.Equal(b)
}

func sameContracts(a, b api.Contract) bool { return same(reflect.ValueOf(a), reflect.ValueOf(b)) }

func text(all []api.Package) string {
	s := ""
	for _, p := range all {
		x, _ := wit.Print(p)
		s += x
	}
	return s
}

// held looks whether a world comes to what the second resolver says.
func held(t *testing.T, all []api.Package, pkg int, name string) (api.Contract, api.Errno) {
	t.Helper()
	c, e := World(all, pkg, name)
	d, want := plainWorld(all, pkg, name)
	if e != want || !sameContracts(c, d) || !isBare(c) || e != api.OK && !isEmpty(c) {
		t.Fatalf("%d, not %d\n%s\nworld of %d\n%s\nnot\n%s", e, want, text(all), pkg, strings.Join(told(c), "\n"), strings.Join(told(d), "\n"))
	}
	return c, e
}

func TestRandomWorlds(t *testing.T) {
	count := map[api.Errno]int{}
	words := map[string]int{}
	for seed := range int64(30000) {
		m := &maker{Rand: rand.New(rand.NewSource(seed))}
		m.miss = of(m, 3, 10, 30, 200, 1000)
		all := m.packages()
		for pkg := range all {
			name := "w"
			if m.Intn(100) > 0 {
				name = of(m, all[pkg].Worlds...).Name
			}
			c, e := held(t, all, pkg, name)
			count[e]++
			for _, s := range c.Res {
				words[s[:strings.IndexAny(s, " ")]]++
			}
		}
	}
	t.Log(count, words)
	if count[api.OK] < 5000 || count[api.ErrDup] < 500 || count[api.ErrName] < 500 || count[api.ErrType] < 500 || count[api.ErrState] < 5 || words["export"] < 1000 || words["import"] < 1000 {
		t.Error(count, words)
	}
}

// rows makes a package of names for one another, in two interfaces, and a function of some types beside.
func (m *maker) rows() []api.Package {
	named := func(k int) api.Type { return api.Type{Kind: api.TNamed, Names: []string{"t" + strconv.Itoa(k)}} }
	wide := func(n int) []api.Type { return slices.Repeat([]api.Type{{Kind: api.TU8}}, n) }
	row := func(n int, last api.Type, more int) []api.Def {
		var l []api.Def
		for k := range n {
			t := named(k + 1 + m.Intn(20)/19)
			if k == n-1 || m.Intn(200) == 0 {
				t = last
			}
			switch m.Intn(more) {
			case 0:
				t = api.Type{Kind: api.TList, L: []api.Type{t}}
			case 1:
				t = api.Type{Kind: api.TTuple, L: append(wide(m.Intn(4)), t)}
			case 2:
				t = api.Type{Kind: api.TResult, L: []api.Type{t, named(n - 1 - m.Intn(n-k))}}
			case 3:
				l = append(l, api.Def{Kind: api.DefVariant, Name: "t" + strconv.Itoa(k), T: api.Type{Kind: api.TVariant, Names: []string{"a", "b"}, L: []api.Type{{}, t}}})
				continue
			}
			l = append(l, api.Def{Kind: api.DefType, Name: "t" + strconv.Itoa(k), T: t})
		}
		return l
	}
	of := of[api.Type]
	last := of(m, wide(1)[0], wide(1)[0], named(0), named(99), api.Type{Kind: api.TOwn, Names: []string{"r"}}, api.Type{Kind: api.TNamed, Names: []string{"r"}})
	far := api.Iface{Name: "far", Defs: row(45+m.Intn(19), last, 4+m.Intn(60))}
	if m.Intn(4) > 0 {
		far.Defs = append(far.Defs, api.Def{Kind: api.DefResource, Name: "r"})
	}
	i := api.Iface{Name: "i", Uses: []api.Use{{From: api.Path{Name: "far"}, Names: []string{"t0", "t1"}, As: []string{"u0", "u1"}}}}
	i.Defs = row(1+m.Intn(10), api.Type{Kind: api.TNamed, Names: []string{"u" + strconv.Itoa(m.Intn(2))}}, 6)
	f := api.Func{Name: "f"}
	for k := range m.Intn(12) {
		t := api.Type{Kind: api.TTuple, L: wide(1 + m.Intn(64))}
		if m.Intn(5) == 0 {
			t = named(m.Intn(len(i.Defs)))
		}
		f.P, f.T = append(f.P, "x"+strconv.Itoa(k)), append(f.T, t)
	}
	f.R = of(m, api.Type{}, named(0), named(0), api.Type{Kind: api.TOwn, Names: []string{"t0"}})
	i.F = []api.Func{f}
	w := api.World{Name: "w", Ins: []api.Port{{From: api.Path{Name: "i"}}}}
	return []api.Package{{Space: "a", Name: "b", Ifaces: []api.Iface{far, i}, Worlds: []api.World{w}}}
}

// Near the limits, too.
func TestRandomRows(t *testing.T) {
	count := map[api.Errno]int{}
	for seed := range int64(15000) {
		m := &maker{Rand: rand.New(rand.NewSource(seed))}
		_, e := held(t, m.rows(), 0, "w")
		count[e]++
	}
	t.Log(count)
	for _, e := range []api.Errno{api.OK, api.ErrFull, api.ErrState, api.ErrName, api.ErrType} {
		if count[e] < 200 {
			t.Error(count)
		}
	}
}
