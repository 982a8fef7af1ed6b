package wit

import (
	"strings"
	"testing"

	"scarf/api"
)

// written looks whether a package is printed as told, and read again as it was.
func written(t *testing.T, p api.Package, want string) {
	t.Helper()
	s, e := Print(p)
	if e != api.OK || s != want {
		t.Errorf("%d\n%s\nnot\n%s", e, s, want)
	}
	if q, at, e := Parse(s); e != api.OK || at != 0 || !same(p, q) {
		t.Errorf("%s\nis read as %v, %d, %d", s, q, at, e)
	}
}

func TestPrintExample(t *testing.T) {
	p, at, e := Parse("package a:b; interface i { f: func(x: list<u8>) -> result<_, string>; }")
	if at != 0 || e != api.OK {
		t.Fatal(at, e)
	}
	f := api.Func{Name: "f", P: []string{"x"}, T: []api.Type{listOf(u8)}, R: resultOf(none, api.Type{Kind: api.TString})}
	if !same(p, withFunc(f)) {
		t.Error(p)
	}
	written(t, p, "package a:b;\ninterface i {\n  f: func(x: list<u8>) -> result<_, string>;\n}\n")
}

func TestPrintTypes(t *testing.T) {
	str := api.Type{Kind: api.TString}
	tuple := func(l ...api.Type) api.Type { return api.Type{Kind: api.TTuple, L: l} }
	option := func(x api.Type) api.Type { return api.Type{Kind: api.TOption, L: []api.Type{x}} }
	for want, x := range map[string]api.Type{
		"bool": {Kind: 1}, "s8": {Kind: 2}, "u8": {Kind: 3}, "s16": {Kind: 4}, "u16": {Kind: 5}, "s32": {Kind: 6},
		"u32": {Kind: 7}, "s64": {Kind: 8}, "u64": {Kind: 9}, "char": {Kind: 10}, "string": {Kind: 11},
		"list<u8>":                listOf(u8),
		"option<string>":          option(str),
		"tuple<u8>":               tuple(u8),
		"tuple<u8, string, a>":    tuple(u8, str, named("a")),
		"result":                  resultOf(none, none),
		"result<u8>":              resultOf(u8, none),
		"result<_, u8>":           resultOf(none, u8),
		"result<u8, string>":      resultOf(u8, str),
		"own<r>":                  {Kind: 20, Names: []string{"r"}},
		"own<%own>":               {Kind: 20, Names: []string{"own"}},
		"borrow<r>":               {Kind: 21, Names: []string{"r"}},
		"borrow<%f32>":            {Kind: 21, Names: []string{"f32"}},
		"a-b":                     named("a-b"),
		"%u8":                     named("u8"),
		"%f64":                    named("f64"),
		"U8":                      named("U8"),
		"list<option<tuple<u8>>>": listOf(option(tuple(u8))),
		"result<result, result<_, result<list<u8>>>>": resultOf(resultOf(none, none), resultOf(none, resultOf(listOf(u8), none))),
	} {
		written(t, withType(x), "package a:b;\ninterface i {\n  type n = "+want+";\n}\n")
		written(t, withFunc(api.Func{Name: "f", R: x}), "package a:b;\ninterface i {\n  f: func() -> "+want+";\n}\n")
		p := []string{"p", "use"}
		l := []api.Type{x, x}
		written(t, withFunc(api.Func{Name: "f", P: p, T: l}), "package a:b;\ninterface i {\n  f: func(p: "+want+", %use: "+want+");\n}\n")
		written(t, withDef(api.Def{Kind: 2, Name: "n", T: api.Type{Kind: api.TRecord, Names: p, L: l}}), "package a:b;\ninterface i {\n  record n {\n    p: "+want+",\n    %use: "+want+",\n  }\n}\n")
		l[0] = none
		written(t, withDef(api.Def{Kind: 3, Name: "n", T: api.Type{Kind: api.TVariant, Names: p, L: l}}), "package a:b;\ninterface i {\n  variant n {\n    p,\n    %use("+want+"),\n  }\n}\n")
	}
}

func TestPrintWhole(t *testing.T) {
	str := api.Type{Kind: api.TString}
	p := api.Package{Space: "a", Name: "b", Version: "1.2.30"}
	p.Ifaces = []api.Iface{{Name: "empty"}, {
		Name: "full",
		Uses: []api.Use{
			{From: api.Path{Name: "empty"}, Names: []string{"t"}, As: []string{""}},
			{From: api.Path{Pkg: "c:d", Name: "e", Version: "0.1.0"}, Names: []string{"t", "as", "v"}, As: []string{"u", "", "as"}},
			{From: api.Path{Pkg: "c:d", Name: "e"}, Names: []string{"x"}, As: []string{"x"}},
		},
		Defs: []api.Def{
			{Kind: 6, Name: "r"},
			{Kind: 1, Name: "alias", T: u8},
			{Kind: 2, Name: "rec", T: api.Type{Kind: 13, Names: []string{"one"}, L: []api.Type{u8}}},
			{Kind: 3, Name: "var", T: api.Type{Kind: 15, Names: []string{"one", "two"}, L: []api.Type{none, str}}},
			{Kind: 4, Name: "en", T: api.Type{Kind: 16, Names: []string{"one", "enum"}}},
			{Kind: 5, Name: "fl", T: api.Type{Kind: 19, Names: []string{"one", "flags"}}},
			{Kind: 6, Name: "q", F: []api.Func{
				{Kind: 1, Name: "m", P: []string{"x"}, T: []api.Type{u8}, R: str},
				{Kind: 3, P: []string{"x", "y"}, T: []api.Type{u8, u8}},
				{Kind: 2, Name: "s"},
				{Kind: 2, Name: "static", R: u8},
				{Kind: 3},
				{Kind: 1, Name: "constructor"},
			}},
		},
		F: []api.Func{{Name: "f"}, {Name: "g", R: u8}},
	}}
	p.Worlds = []api.World{{Name: "empty"}, {
		Name: "w",
		Uses: []api.Use{{From: api.Path{Name: "full"}, Names: []string{"r"}, As: []string{""}}},
		Defs: []api.Def{{Kind: 1, Name: "t", T: str}},
		Ins: []api.Port{
			{F: api.Func{Name: "f", P: []string{"x"}, T: []api.Type{u8}}},
			{From: api.Path{Name: "full"}},
		},
		Outs: []api.Port{
			{From: api.Path{Pkg: "c:d", Name: "e", Version: "0.1.0"}},
			{From: api.Path{Pkg: "c:d", Name: "e"}},
			{F: api.Func{Name: "g", R: u8}},
		},
	}}
	written(t, p, strings.TrimLeft(`
package a:b@1.2.30;
interface empty {
}
interface full {
  use empty .{t};
  use c:d/e@0.1.0 .{t as u, %as, v as %as};
  use c:d/e .{x as x};
  resource r;
  type alias = u8;
  record rec {
    one: u8,
  }
  variant var {
    one,
    two(string),
  }
  enum en {
    one,
    %enum,
  }
  flags fl {
    one,
    %flags,
  }
  resource q {
    m: func(x: u8) -> string;
    constructor(x: u8, y: u8);
    s: static func();
    %static: static func() -> u8;
    constructor();
    %constructor: func();
  }
  f: func();
  g: func() -> u8;
}
world empty {
}
world w {
  use full .{r};
  type t = string;
  import f: func(x: u8);
  import full;
  export c:d/e@0.1.0;
  export c:d/e;
  export g: func() -> u8;
}
`, "\n"))
	written(t, api.Package{Space: "a", Name: "b"}, "package a:b;\n")
	written(t, api.Package{Space: "package", Name: "world", Version: "0.0.0"}, "package %package:%world@0.0.0;\n")
}

// Words of the language have a % wherever a name stands, other names have none.
func TestPrintWords(t *testing.T) {
	for what, p := range places() {
		for _, word := range strings.Fields(allWords) {
			s, _ := Print(p(word))
			plain, _ := Print(p("zzz"))
			written(t, p(word), strings.ReplaceAll(plain, "zzz", "%"+word))
			if strings.Count(s, "%") != 1 {
				t.Error(what, s)
			}
		}
		for _, s := range []string{"owns", "OWN", "f33", "A-own", "u8-u8", "f128"} {
			text, e := Print(p(s))
			if e != api.OK || strings.Contains(text, "%") {
				t.Error(what, s, text, e)
			}
		}
	}
}

func TestPrintLists(t *testing.T) {
	for what, p := range lists(64) {
		s, e := Print(p)
		if e != api.OK {
			t.Error(what, e)
		}
		written(t, p, s)
	}
}

// A text may be too long to be read, and is printed all the same.
func TestPrintLong(t *testing.T) {
	names := times(64, strings.Repeat("x", 100))
	d := api.Def{Kind: api.DefEnum, Name: "n", T: api.Type{Kind: api.TEnum, Names: names}}
	p := withDef(d)
	p.Ifaces[0].Defs = times(64, d)
	s, e := Print(p)
	if e != api.OK || len(s) < 64*64*100 || strings.Count(s, "\n") != 3+64*66 {
		t.Error(len(s), e)
	}
	if q, at, e := Parse(s); e != api.ErrFull || at != 0 || !same(q, api.Package{}) {
		t.Error(at, e)
	}
}
