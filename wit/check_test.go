package wit

import (
	"strings"
	"testing"

	"scarf/api"
	"scarf/lex"
)

// Things of each kind, as small as they may be.
var (
	u8   = api.Type{Kind: api.TU8}
	none = api.Type{}
)

func listOf(t api.Type) api.Type      { return api.Type{Kind: api.TList, L: []api.Type{t}} }
func named(s string) api.Type         { return api.Type{Kind: api.TNamed, Names: []string{s}} }
func resultOf(a, b api.Type) api.Type { return api.Type{Kind: api.TResult, L: []api.Type{a, b}} }

// withDef is a package of a definition alone.
func withDef(d api.Def) api.Package {
	return api.Package{Space: "a", Name: "b", Ifaces: []api.Iface{{Name: "i", Defs: []api.Def{d}}}}
}

// withType is a package of a type's other name alone.
func withType(t api.Type) api.Package {
	return withDef(api.Def{Kind: api.DefType, Name: "n", T: t})
}

// withFunc is a package of a function alone, free or a resource's.
func withFunc(f api.Func) api.Package {
	if f.Kind == api.FuncFree {
		return api.Package{Space: "a", Name: "b", Ifaces: []api.Iface{{Name: "i", F: []api.Func{f}}}}
	}
	return withOwned(f)
}

func withOwned(f api.Func) api.Package {
	return withDef(api.Def{Kind: api.DefResource, Name: "r", F: []api.Func{f}})
}

func withPort(p api.Port) api.Package {
	return api.Package{Space: "a", Name: "b", Worlds: []api.World{{Name: "w", Ins: []api.Port{p}}}}
}

func withUse(u api.Use) api.Package {
	return api.Package{Space: "a", Name: "b", Ifaces: []api.Iface{{Name: "i", Uses: []api.Use{u}}}}
}

// mayBe looks whether Check answers OK just if it has to, and Print as Check does.
func mayBe(t *testing.T, what string, p api.Package, ok bool) {
	t.Helper()
	want := api.ErrArg
	if ok {
		want = api.OK
	}
	if e := Check(p); e != want {
		t.Errorf("%s: %d, not %d", what, e, want)
	}
	if plainCheck(p) != want {
		t.Errorf("%s: the second check says otherwise", what)
	}
	s, e := Print(p)
	if e != want || (s == "") == ok {
		t.Errorf("%s: printed: %q, %d", what, s, e)
	}
}

func TestCheckTypes(t *testing.T) {
	one, two := []string{"a"}, []string{"a", "b"}
	for _, x := range []struct {
		what  string
		kinds []int
		l     api.Type
		ok    bool
	}{
		{"plain", []int{1, 2, 3, 4, 5, 6, 7, 8, 9, 10, 11}, none, true},
		{"plain with R", []int{1, 2, 3, 4, 5, 6, 7, 8, 9, 10, 11}, api.Type{R: 1}, false},
		{"plain with a name", []int{1, 2, 3, 4, 5, 6, 7, 8, 9, 10, 11}, api.Type{Names: one}, false},
		{"plain with a type", []int{1, 2, 3, 4, 5, 6, 7, 8, 9, 10, 11}, api.Type{L: []api.Type{u8}}, false},
		{"plain with none", []int{1, 2, 3, 4, 5, 6, 7, 8, 9, 10, 11}, api.Type{L: []api.Type{none}}, false},
		{"of one", []int{12, 14, 17}, api.Type{L: []api.Type{u8}}, true},
		{"of one with R", []int{12, 14, 17}, api.Type{L: []api.Type{u8}, R: -1}, false},
		{"of one with a name", []int{12, 14, 17}, api.Type{L: []api.Type{u8}, Names: one}, false},
		{"of none", []int{12, 14, 17}, api.Type{L: []api.Type{none}}, false},
		{"of nothing", []int{12, 14, 17, 18}, none, false},
		{"of two", []int{12, 17}, api.Type{L: []api.Type{u8, u8}}, false},
		{"of two", []int{14, 18}, api.Type{L: []api.Type{u8, u8}}, true},
		{"of one and none", []int{12, 14, 17}, api.Type{L: []api.Type{u8, none}}, false},
		{"of one or two that may not be", []int{12, 14, 17}, api.Type{L: []api.Type{{Kind: 13}}}, false},
		{"a result of one", []int{18}, api.Type{L: []api.Type{u8}}, false},
		{"a result of three", []int{18}, api.Type{L: []api.Type{u8, u8, u8}}, false},
		{"a result of one and none", []int{18}, api.Type{L: []api.Type{u8, none}}, true},
		{"a result of none and one", []int{18}, api.Type{L: []api.Type{none, u8}}, true},
		{"a result of none and none", []int{18}, api.Type{L: []api.Type{none, none}}, true},
		{"a result of what may not be", []int{18}, api.Type{L: []api.Type{{Kind: 13}, u8}}, false},
		{"a result of what may not be", []int{18}, api.Type{L: []api.Type{u8, {Kind: 16}}}, false},
		{"a result of what is not quite none", []int{18}, api.Type{L: []api.Type{u8, {R: 1}}}, false},
		{"a result of what is not quite none", []int{18}, api.Type{L: []api.Type{{Names: one}, u8}}, false},
		{"a result of what is not quite none", []int{18}, api.Type{L: []api.Type{{L: []api.Type{u8}}, u8}}, false},
		{"a result with R", []int{18}, api.Type{L: []api.Type{u8, u8}, R: 1}, false},
		{"a result with a name", []int{18}, api.Type{L: []api.Type{u8, u8}, Names: one}, false},
		{"of a name", []int{20, 21, 22}, api.Type{Names: one}, true},
		{"of a word", []int{20, 21, 22}, api.Type{Names: []string{"own"}}, true},
		{"of a name and R", []int{20, 21, 22}, api.Type{Names: one, R: 3}, false},
		{"of a name and a type", []int{20, 21, 22}, api.Type{Names: one, L: []api.Type{u8}}, false},
		{"of no name", []int{20, 21, 22}, none, false},
		{"of two names", []int{20, 21, 22}, api.Type{Names: two}, false},
		{"of none that is a name", []int{20, 21, 22}, api.Type{Names: []string{"a:b"}}, false},
		{"none", []int{0, -1, 23, 1 << 40}, none, false},
		{"a definition's, with names", []int{13, 15, 16, 19}, api.Type{Names: one}, false},
		{"a definition's, with names and types", []int{13, 15, 16, 19}, api.Type{Names: one, L: []api.Type{u8}}, false},
		{"a definition's, with types", []int{13, 15, 16, 19}, api.Type{L: []api.Type{u8}}, false},
	} {
		for _, kind := range x.kinds {
			y := x.l
			y.Kind = kind
			mayBe(t, x.what, withType(y), x.ok)
			mayBe(t, x.what+", given", withFunc(api.Func{Name: "f", R: y}), x.ok || kind == 0)
			mayBe(t, x.what+", taken", withFunc(api.Func{Name: "f", P: []string{"p"}, T: []api.Type{y}}), x.ok)
			mayBe(t, x.what+", within", withType(listOf(y)), x.ok)
			mayBe(t, x.what+", a field", withDef(api.Def{Kind: api.DefRecord, Name: "n", T: api.Type{Kind: api.TRecord, Names: one, L: []api.Type{y}}}), x.ok)
			mayBe(t, x.what+", a case", withDef(api.Def{Kind: api.DefVariant, Name: "n", T: api.Type{Kind: api.TVariant, Names: one, L: []api.Type{y}}}), x.ok || kind == 0)
		}
	}
}

// nested is a type within as many others of a kind.
func nested(t api.Type, n int, around func(api.Type) api.Type) api.Type {
	for range n {
		t = around(t)
	}
	return t
}

func TestCheckDeep(t *testing.T) {
	around := []func(api.Type) api.Type{
		listOf,
		func(t api.Type) api.Type { return api.Type{Kind: api.TOption, L: []api.Type{t}} },
		func(t api.Type) api.Type { return api.Type{Kind: api.TTuple, L: []api.Type{u8, t}} },
		func(t api.Type) api.Type { return resultOf(t, none) },
		func(t api.Type) api.Type { return resultOf(u8, t) },
	}
	for _, f := range around {
		for _, x := range []api.Type{u8, named("x"), resultOf(none, none)} {
			for n := range 40 {
				deep := nested(x, n, f)
				mayBe(t, "deep", withType(deep), n < api.MaxDeep)
				mayBe(t, "deep", withFunc(api.Func{Name: "f", R: deep}), n < api.MaxDeep)
				mayBe(t, "deep", withFunc(api.Func{Kind: api.FuncMake, P: []string{"p"}, T: []api.Type{deep}}), n < api.MaxDeep)
				mayBe(t, "deep", withDef(api.Def{Kind: api.DefRecord, Name: "n", T: api.Type{Kind: api.TRecord, Names: []string{"a", "b"}, L: []api.Type{u8, deep}}}), n < api.MaxDeep)
				mayBe(t, "deep", withDef(api.Def{Kind: api.DefVariant, Name: "n", T: api.Type{Kind: api.TVariant, Names: []string{"a"}, L: []api.Type{deep}}}), n < api.MaxDeep)
			}
		}
	}
	mayBe(t, "deep", withType(nested(u8, 5000, listOf)), false)
	round := []api.Type{{Kind: api.TTuple}, {Kind: api.TTuple}}
	round[0].L, round[1].L = round, round
	if e := Check(withType(api.Type{Kind: api.TTuple, L: round})); e != api.ErrArg {
		t.Error("within itself", e)
	}
}

func TestCheckFuncs(t *testing.T) {
	p, l := []string{"p"}, []api.Type{u8}
	for _, x := range []struct {
		what string
		f    api.Func
		free bool
		own  bool
	}{
		{"free", api.Func{Name: "f"}, true, false},
		{"free, full", api.Func{Name: "f", P: p, T: l, R: u8}, true, false},
		{"free, no name", api.Func{P: p, T: l, R: u8}, false, false},
		{"a method", api.Func{Kind: 1, Name: "f"}, false, true},
		{"a method, full", api.Func{Kind: 1, Name: "f", P: p, T: l, R: u8}, false, true},
		{"a method, no name", api.Func{Kind: 1}, false, false},
		{"static", api.Func{Kind: 2, Name: "f"}, false, true},
		{"static, full", api.Func{Kind: 2, Name: "f", P: p, T: l, R: u8}, false, true},
		{"static, no name", api.Func{Kind: 2}, false, false},
		{"a constructor", api.Func{Kind: 3}, false, true},
		{"a constructor, full", api.Func{Kind: 3, P: p, T: l}, false, true},
		{"a constructor with a name", api.Func{Kind: 3, Name: "f"}, false, false},
		{"a constructor that gives", api.Func{Kind: 3, R: u8}, false, false},
		{"a constructor that gives not quite none", api.Func{Kind: 3, R: api.Type{R: 1}}, false, false},
		{"of no kind", api.Func{Kind: 4, Name: "f"}, false, false},
		{"of no kind", api.Func{Kind: 4}, false, false},
		{"of no kind", api.Func{Kind: -1, Name: "f"}, false, false},
		{"no types", api.Func{Name: "f", P: p}, false, false},
		{"no names", api.Func{Name: "f", T: l}, false, false},
		{"too few types", api.Func{Name: "f", P: []string{"p", "q"}, T: l}, false, false},
		{"too few names", api.Func{Name: "f", P: p, T: []api.Type{u8, u8}}, false, false},
		{"a method's too few names", api.Func{Kind: 1, Name: "f", T: l}, false, false},
		{"a constructor's too few types", api.Func{Kind: 3, P: p}, false, false},
		{"takes none", api.Func{Name: "f", P: p, T: []api.Type{none}}, false, false},
		{"gives not quite none", api.Func{Name: "f", R: api.Type{Names: p}}, false, false},
		{"one name twice", api.Func{Name: "f", P: []string{"p", "p"}, T: []api.Type{u8, u8}}, true, false},
	} {
		free := x.f
		mayBe(t, x.what+" in an interface", api.Package{Space: "a", Name: "b", Ifaces: []api.Iface{{Name: "i", F: []api.Func{free}}}}, x.free)
		mayBe(t, x.what+" as a port", withPort(api.Port{F: free}), x.free)
		mayBe(t, x.what+" as an export", api.Package{Space: "a", Name: "b", Worlds: []api.World{{Name: "w", Outs: []api.Port{{F: free}}}}}, x.free)
		mayBe(t, x.what+" of a resource", withOwned(x.f), x.own)
	}
}

func TestCheckDefs(t *testing.T) {
	one, two := []string{"a"}, []string{"a", "b"}
	f := []api.Func{{Kind: api.FuncMethod, Name: "f"}}
	record := func(t api.Type) api.Type { t.Kind = api.TRecord; return t }
	variant := func(t api.Type) api.Type { t.Kind = api.TVariant; return t }
	for _, x := range []struct {
		what string
		d    api.Def
		ok   bool
	}{
		{"a type", api.Def{Kind: 1, T: u8}, true},
		{"a type that is none", api.Def{Kind: 1}, false},
		{"a type that is a record", api.Def{Kind: 1, T: record(api.Type{Names: one, L: []api.Type{u8}})}, false},
		{"a type that is an enum", api.Def{Kind: 1, T: api.Type{Kind: 16, Names: one}}, false},
		{"a type with a function", api.Def{Kind: 1, T: u8, F: f}, false},
		{"a record", api.Def{Kind: 2, T: record(api.Type{Names: one, L: []api.Type{u8}})}, true},
		{"a record of one name twice", api.Def{Kind: 2, T: record(api.Type{Names: []string{"a", "a"}, L: []api.Type{u8, u8}})}, true},
		{"a record of nothing", api.Def{Kind: 2, T: record(none)}, false},
		{"a record of none", api.Def{Kind: 2, T: record(api.Type{Names: one, L: []api.Type{none}})}, false},
		{"a record of too few names", api.Def{Kind: 2, T: record(api.Type{Names: one, L: []api.Type{u8, u8}})}, false},
		{"a record of too few types", api.Def{Kind: 2, T: record(api.Type{Names: two, L: []api.Type{u8}})}, false},
		{"a record of no types", api.Def{Kind: 2, T: record(api.Type{Names: one})}, false},
		{"a record of no names", api.Def{Kind: 2, T: record(api.Type{L: []api.Type{u8}})}, false},
		{"a record with R", api.Def{Kind: 2, T: record(api.Type{Names: one, L: []api.Type{u8}, R: 1})}, false},
		{"a record with a function", api.Def{Kind: 2, T: record(api.Type{Names: one, L: []api.Type{u8}}), F: f}, false},
		{"a record that is a variant", api.Def{Kind: 2, T: variant(api.Type{Names: one, L: []api.Type{u8}})}, false},
		{"a record that is a type", api.Def{Kind: 2, T: u8}, false},
		{"a record of a record", api.Def{Kind: 2, T: record(api.Type{Names: one, L: []api.Type{record(api.Type{Names: one, L: []api.Type{u8}})}})}, false},
		{"a variant", api.Def{Kind: 3, T: variant(api.Type{Names: one, L: []api.Type{u8}})}, true},
		{"a variant of none", api.Def{Kind: 3, T: variant(api.Type{Names: two, L: []api.Type{none, none}})}, true},
		{"a variant of not quite none", api.Def{Kind: 3, T: variant(api.Type{Names: two, L: []api.Type{none, {R: 1}}})}, false},
		{"a variant of nothing", api.Def{Kind: 3, T: variant(none)}, false},
		{"a variant of too few names", api.Def{Kind: 3, T: variant(api.Type{Names: one, L: []api.Type{u8, none}})}, false},
		{"a variant of too few types", api.Def{Kind: 3, T: variant(api.Type{Names: two, L: []api.Type{u8}})}, false},
		{"a variant of no types", api.Def{Kind: 3, T: variant(api.Type{Names: one})}, false},
		{"a variant with R", api.Def{Kind: 3, T: variant(api.Type{Names: one, L: []api.Type{u8}, R: 1})}, false},
		{"a variant with a function", api.Def{Kind: 3, T: variant(api.Type{Names: one, L: []api.Type{u8}}), F: f}, false},
		{"a variant that is a record", api.Def{Kind: 3, T: record(api.Type{Names: one, L: []api.Type{u8}})}, false},
		{"an enum", api.Def{Kind: 4, T: api.Type{Kind: 16, Names: one}}, true},
		{"an enum of nothing", api.Def{Kind: 4, T: api.Type{Kind: 16}}, false},
		{"an enum of a type", api.Def{Kind: 4, T: api.Type{Kind: 16, Names: one, L: []api.Type{u8}}}, false},
		{"an enum of none", api.Def{Kind: 4, T: api.Type{Kind: 16, Names: one, L: []api.Type{none}}}, false},
		{"an enum with R", api.Def{Kind: 4, T: api.Type{Kind: 16, Names: one, R: 1}}, false},
		{"an enum with a function", api.Def{Kind: 4, T: api.Type{Kind: 16, Names: one}, F: f}, false},
		{"an enum that is flags", api.Def{Kind: 4, T: api.Type{Kind: 19, Names: one}}, false},
		{"flags", api.Def{Kind: 5, T: api.Type{Kind: 19, Names: two}}, true},
		{"flags of nothing", api.Def{Kind: 5, T: api.Type{Kind: 19}}, false},
		{"flags of a type", api.Def{Kind: 5, T: api.Type{Kind: 19, Names: one, L: []api.Type{u8}}}, false},
		{"flags with R", api.Def{Kind: 5, T: api.Type{Kind: 19, Names: one, R: 1}}, false},
		{"flags with a function", api.Def{Kind: 5, T: api.Type{Kind: 19, Names: one}, F: f}, false},
		{"flags that are an enum", api.Def{Kind: 5, T: api.Type{Kind: 16, Names: one}}, false},
		{"a resource", api.Def{Kind: 6}, true},
		{"a resource with a function", api.Def{Kind: 6, F: f}, true},
		{"a resource of a type", api.Def{Kind: 6, T: u8}, false},
		{"a resource with R", api.Def{Kind: 6, T: api.Type{R: 1}}, false},
		{"a resource with a name", api.Def{Kind: 6, T: api.Type{Names: one}}, false},
		{"a resource with none within", api.Def{Kind: 6, T: api.Type{L: []api.Type{none}}}, false},
		{"of no kind", api.Def{}, false},
		{"of no kind", api.Def{T: u8}, false},
		{"of no kind", api.Def{Kind: 7}, false},
		{"of no kind", api.Def{Kind: -1, T: u8}, false},
	} {
		mayBe(t, x.what+" without a name", withDef(x.d), false)
		x.d.Name = "n"
		mayBe(t, x.what, withDef(x.d), x.ok)
		mayBe(t, x.what+" in a world", api.Package{Space: "a", Name: "b", Worlds: []api.World{{Name: "w", Defs: []api.Def{x.d}}}}, x.ok)
	}
}

func TestCheckPaths(t *testing.T) {
	for _, x := range []struct {
		p  api.Path
		ok bool
	}{
		{api.Path{Name: "c"}, true},
		{api.Path{Name: "use"}, true},
		{api.Path{Pkg: "a:b", Name: "c"}, true},
		{api.Path{Pkg: "use:as", Name: "func", Version: "0.0.1"}, true},
		{api.Path{Pkg: "a:b", Name: "c", Version: "1.2"}, false},
		{api.Path{Pkg: "a:b", Name: "c", Version: "1.2.3-a"}, false},
		{api.Path{Name: "c", Version: "1.2.3"}, false},
		{api.Path{Pkg: "a:b"}, false},
		{api.Path{Pkg: "a:b", Version: "1.2.3"}, false},
		{api.Path{Version: "1.2.3"}, false},
		{api.Path{Pkg: "a", Name: "c"}, false},
		{api.Path{Pkg: "a:", Name: "c"}, false},
		{api.Path{Pkg: ":b", Name: "c"}, false},
		{api.Path{Pkg: ":", Name: "c"}, false},
		{api.Path{Pkg: "a:b:c", Name: "c"}, false},
		{api.Path{Pkg: "a/b", Name: "c"}, false},
		{api.Path{Pkg: "a: b", Name: "c"}, false},
		{api.Path{Pkg: "%a:b", Name: "c"}, false},
		{api.Path{Pkg: "a:b", Name: "c/d"}, false},
		{api.Path{Pkg: "a:b", Name: "1"}, false},
		{api.Path{Name: "c@1.2.3"}, false},
	} {
		mayBe(t, x.p.Pkg+"/"+x.p.Name, withPort(api.Port{From: x.p}), x.ok)
		mayBe(t, x.p.Pkg+"/"+x.p.Name, withUse(api.Use{From: x.p, Names: []string{"a"}, As: []string{""}}), x.ok)
		mayBe(t, "a port and a function", withPort(api.Port{From: x.p, F: api.Func{Name: "f"}}), false)
	}
	mayBe(t, "a path of nothing is used", withUse(api.Use{Names: []string{"a"}, As: []string{""}}), false)
	mayBe(t, "a port of nothing", withPort(api.Port{}), false)
	for _, f := range []api.Func{{Kind: 1}, {P: []string{"p"}}, {T: []api.Type{u8}}, {R: u8}, {R: api.Type{R: 1}}, {P: []string{"p"}, T: []api.Type{u8}}} {
		mayBe(t, "an interface and more", withPort(api.Port{From: api.Path{Name: "c"}, F: f}), false)
	}
}

func TestCheckUses(t *testing.T) {
	for _, x := range []struct {
		names, as []string
		ok        bool
	}{
		{[]string{"a"}, []string{""}, true},
		{[]string{"a"}, []string{"b"}, true},
		{[]string{"a"}, []string{"a"}, true},
		{[]string{"a", "a"}, []string{"", "func"}, true},
		{nil, nil, false},
		{[]string{"a"}, nil, false},
		{nil, []string{"a"}, false},
		{[]string{"a", "b"}, []string{""}, false},
		{[]string{"a"}, []string{"", ""}, false},
		{[]string{""}, []string{""}, false},
		{[]string{""}, []string{"a"}, false},
		{[]string{"a"}, []string{"1"}, false},
	} {
		mayBe(t, strings.Join(x.names, " "), withUse(api.Use{From: api.Path{Name: "c"}, Names: x.names, As: x.as}), x.ok)
	}
}

// places are all places of a package in which a name has to stand; no other may be asked for there.
func places() map[string]func(string) api.Package {
	return map[string]func(string) api.Package{
		"space":     func(s string) api.Package { return api.Package{Space: s, Name: "b"} },
		"name":      func(s string) api.Package { return api.Package{Space: "a", Name: s} },
		"interface": func(s string) api.Package { return api.Package{Space: "a", Name: "b", Ifaces: []api.Iface{{Name: s}}} },
		"world":     func(s string) api.Package { return api.Package{Space: "a", Name: "b", Worlds: []api.World{{Name: s}}} },
		"used": func(s string) api.Package {
			return withUse(api.Use{From: api.Path{Name: "c"}, Names: []string{"a", s}, As: []string{"", ""}})
		},
		"as": func(s string) api.Package {
			return withUse(api.Use{From: api.Path{Name: "c"}, Names: []string{"a", "b"}, As: []string{"x", s}})
		},
		"path":     func(s string) api.Package { return withPort(api.Port{From: api.Path{Pkg: "a:b", Name: s}}) },
		"path's 1": func(s string) api.Package { return withPort(api.Port{From: api.Path{Pkg: s + ":b", Name: "c"}}) },
		"path's 2": func(s string) api.Package { return withPort(api.Port{From: api.Path{Pkg: "a:" + s, Name: "c"}}) },
		"function": func(s string) api.Package { return withFunc(api.Func{Name: s}) },
		"port":     func(s string) api.Package { return withPort(api.Port{F: api.Func{Name: s, R: u8}}) },
		"method":   func(s string) api.Package { return withFunc(api.Func{Kind: api.FuncMethod, Name: s}) },
		"static":   func(s string) api.Package { return withFunc(api.Func{Kind: api.FuncStatic, Name: s}) },
		"argument": func(s string) api.Package { return withFunc(api.Func{Name: "f", P: []string{s}, T: []api.Type{u8}}) },
		"constructor": func(s string) api.Package {
			return withFunc(api.Func{Kind: api.FuncMake, P: []string{s}, T: []api.Type{u8}})
		},
		"own":      func(s string) api.Package { return withType(api.Type{Kind: api.TOwn, Names: []string{s}}) },
		"borrow":   func(s string) api.Package { return withType(listOf(api.Type{Kind: api.TBorrow, Names: []string{s}})) },
		"named":    func(s string) api.Package { return withType(named(s)) },
		"type":     func(s string) api.Package { return withDef(api.Def{Kind: api.DefType, Name: s, T: u8}) },
		"resource": func(s string) api.Package { return withDef(api.Def{Kind: api.DefResource, Name: s}) },
		"field": func(s string) api.Package {
			return withDef(api.Def{Kind: api.DefRecord, Name: "n", T: api.Type{Kind: api.TRecord, Names: []string{"a", s}, L: []api.Type{u8, u8}}})
		},
		"case": func(s string) api.Package {
			return withDef(api.Def{Kind: api.DefVariant, Name: "n", T: api.Type{Kind: api.TVariant, Names: []string{s}, L: []api.Type{none}}})
		},
		"enum": func(s string) api.Package {
			return withDef(api.Def{Kind: api.DefEnum, Name: "n", T: api.Type{Kind: api.TEnum, Names: []string{s, "b"}}})
		},
		"flag": func(s string) api.Package {
			return withDef(api.Def{Kind: api.DefFlags, Name: "n", T: api.Type{Kind: api.TFlags, Names: []string{s}}})
		},
	}
}

// allWords are the words of the language.
const allWords = "package interface world use as import export type record variant enum flags resource constructor static func bool s8 u8 s16 u16 s32 u32 s64 u64 f32 f64 char string list option result tuple own borrow"

func TestCheckNames(t *testing.T) {
	good := append(strings.Fields(allWords), "a", "A", "a1", "a-B-c2", strings.Repeat("a", 100), strings.Repeat("a-", 49)+"bc")
	bad := []string{"", "1", "1a", "a-", "-a", "a--b", "aB", "a_b", "a b", "%a", "a ", "ä", "a\x00", "_", "a.b", strings.Repeat("a", 101), "own-"}
	for what, p := range places() {
		for _, s := range good {
			mayBe(t, what+" "+s, p(s), lex.Name(s))
		}
		for _, s := range bad {
			mayBe(t, what+" "+s, p(s), what == "as" && s == "")
		}
	}
}

func TestCheckVersions(t *testing.T) {
	for s, ok := range map[string]bool{"": true, "0.0.0": true, "1.20.300": true, "999999999.0.1": true, "1": false, "1.2": false, "1.2.3.4": false, "01.2.3": false, "1.2.03": false, "1.2.x": false, "@1.2.3": false, " ": false, "1.2.1234567890": false, ".": false} {
		mayBe(t, s, api.Package{Space: "a", Name: "b", Version: s}, ok)
		mayBe(t, s, withPort(api.Port{From: api.Path{Pkg: "a:b", Name: "c", Version: s}}), ok)
	}
}

func times[T any](n int, x T) []T {
	var l []T
	for range n {
		l = append(l, x)
	}
	return l
}

// lists are packages with a list of as many things, and whether the list may have none.
func lists(n int) map[string]api.Package {
	names, types := times(n, "x"), times(n, u8)
	free, own := times(n, api.Func{Name: "f"}), times(n, api.Func{Kind: api.FuncMethod, Name: "f"})
	use := times(n, api.Use{From: api.Path{Name: "c"}, Names: []string{"a"}, As: []string{""}})
	defs := times(n, api.Def{Kind: api.DefResource, Name: "r"})
	ports := times(n, api.Port{From: api.Path{Name: "c"}})
	iface := func(i api.Iface) api.Package {
		i.Name = "i"
		return api.Package{Space: "a", Name: "b", Ifaces: []api.Iface{i}}
	}
	world := func(w api.World) api.Package {
		w.Name = "w"
		return api.Package{Space: "a", Name: "b", Worlds: []api.World{w}}
	}
	return map[string]api.Package{
		"interfaces":           {Space: "a", Name: "b", Ifaces: times(n, api.Iface{Name: "i"})},
		"worlds":               {Space: "a", Name: "b", Worlds: times(n, api.World{Name: "w"})},
		"uses":                 iface(api.Iface{Uses: use}),
		"defs":                 iface(api.Iface{Defs: defs}),
		"functions":            iface(api.Iface{F: free}),
		"world's uses":         world(api.World{Uses: use}),
		"world's defs":         world(api.World{Defs: defs}),
		"imports":              world(api.World{Ins: ports}),
		"exports":              world(api.World{Outs: ports}),
		"own functions":        withDef(api.Def{Kind: api.DefResource, Name: "r", F: own}),
		"arguments":            withFunc(api.Func{Name: "f", P: names, T: types}),
		"own arguments":        withFunc(api.Func{Kind: api.FuncMake, P: names, T: types}),
		"at least one: used":   withUse(api.Use{From: api.Path{Name: "c"}, Names: names, As: times(n, "")}),
		"at least one: fields": withDef(api.Def{Kind: api.DefRecord, Name: "n", T: api.Type{Kind: api.TRecord, Names: names, L: types}}),
		"at least one: cases":  withDef(api.Def{Kind: api.DefVariant, Name: "n", T: api.Type{Kind: api.TVariant, Names: names, L: times(n, none)}}),
		"at least one: enum":   withDef(api.Def{Kind: api.DefEnum, Name: "n", T: api.Type{Kind: api.TEnum, Names: names}}),
		"at least one: flags":  withDef(api.Def{Kind: api.DefFlags, Name: "n", T: api.Type{Kind: api.TFlags, Names: names}}),
		"at least one: tuple":  withType(api.Type{Kind: api.TTuple, L: types}),
	}
}

func TestCheckLists(t *testing.T) {
	for _, n := range []int{0, 1, 2, 63, 64, 65, 66, 200} {
		for what, p := range lists(n) {
			mayBe(t, what, p, n <= 64 && (n > 0 || !strings.HasPrefix(what, "at least one")))
		}
	}
}

// A fault of the last thing of each list is one.
func TestCheckLast(t *testing.T) {
	for what, p := range lists(2) {
		if Check(p) != api.OK {
			t.Error(what)
		}
	}
	good := api.Iface{Name: "i"}
	mayBe(t, "the last interface", api.Package{Space: "a", Name: "b", Ifaces: []api.Iface{good, {Name: "1"}}}, false)
	mayBe(t, "the last world", api.Package{Space: "a", Name: "b", Worlds: []api.World{{Name: "w"}, {}}}, false)
	mayBe(t, "the last export", api.Package{Space: "a", Name: "b", Worlds: []api.World{{Name: "w", Outs: []api.Port{{From: api.Path{Name: "c"}}, {}}}}}, false)
	mayBe(t, "nothing", api.Package{}, false)
}
