package resolve

import (
	"testing"

	"scarf/api"
)

func one(s string) []string { return []string{"package a:b; " + s} }

func TestExample(t *testing.T) {
	all := packs(t, "package a:b; interface i { resource r { f: func(); } g: func(x: r); } world w { import i; }")
	is(t, all, 0, "w", "import a:b/i#r", "in a:b/i#[method]r.f(self: borrow 0)", "in a:b/i#g(x: own 0)")
	all = packs(t, "package a:b; interface i { f: func(s: string) -> u8; } world w { export i; }")
	is(t, all, 0, "w", "out a:b/i#f(s: string) -> u8")
}

// Ports in their order, imports ahead of exports; of an interface the functions of its resources ahead of its own.
func TestOrder(t *testing.T) {
	comes(t, one(`
interface i { a: func(); resource z { m: func(); } b: func() -> bool; resource empty; resource y { s: static func(); constructor(); } }
interface j { c: func(); }
interface none { resource r; type t = u8; }
world w { export g: func(); import k: func(x: u8, y: s8) -> char; export i; import j; import none; import i; export f: func(); import f: func(); }`),
		"import a:b/i#z", "import a:b/i#y", "export a:b/i#z", "export a:b/i#y",
		"in k(x: u8, y: s8) -> char", "in a:b/j#c()",
		"in a:b/i#[method]z.m(self: borrow 0)", "in a:b/i#[static]y.s()", "in a:b/i#[constructor]y() -> own 1", "in a:b/i#a()", "in a:b/i#b() -> bool", "in f()",
		"out g()",
		"out a:b/i#[method]z.m(self: borrow 2)", "out a:b/i#[static]y.s()", "out a:b/i#[constructor]y() -> own 3", "out a:b/i#a()", "out a:b/i#b() -> bool",
		"out f()")
	comes(t, one("world w { }"))
	comes(t, one("world w { resource r { f: func(x: nothing); } type t = nothing; use no-one.{x}; }"))
}

func TestFunctionsOfResources(t *testing.T) {
	comes(t, []string{`package ns:pkg@1.20.3; interface i {
resource r { constructor(self: u8, x: borrow<r>); m: func(x: r, y: string) -> option<r>; s: static func(self: borrow<r>) -> own<r>; n: func(); }
f: func(self: r);
} world w { export i; }`},
		"export ns:pkg/i@1.20.3#r",
		"out ns:pkg/i@1.20.3#[constructor]r(self: u8, x: borrow 0) -> own 0",
		"out ns:pkg/i@1.20.3#[method]r.m(self: borrow 0, x: own 0, y: string) -> option<own 0>",
		"out ns:pkg/i@1.20.3#[static]r.s(self: borrow 0) -> own 0",
		"out ns:pkg/i@1.20.3#[method]r.n(self: borrow 0)",
		"out ns:pkg/i@1.20.3#f(self: own 0)")
}

// Names that are words of the language, or have great letters, stand in keys as they are.
func TestNamesAsTheyAre(t *testing.T) {
	comes(t, []string{"package %use:HTTP-x1; interface %list { resource %own { %func: func(%type: %own); } } world w { import %list; import %import: func(); }"},
		"import use:HTTP-x1/list#own", "in use:HTTP-x1/list#[method]own.func(self: borrow 0, type: own 0)", "in import()")
}

func TestTypes(t *testing.T) {
	plain := []string{"bool", "s8", "u8", "s16", "u16", "s32", "u32", "s64", "u64", "char", "string", "list<u8>", "option<list<bool>>", "tuple<u8>", "tuple<u8, s8, tuple<char>>", "result<_, _>", "result<u8, _>", "result<_, u8>", "result<option<u8>, list<string>>"}
	written := func(s string) string {
		switch s {
		case "result<_, _>":
			return "result"
		case "result<u8, _>":
			return "result<u8>"
		}
		return s
	}
	for _, s := range plain {
		x := written(s)
		comes(t, one("interface i { type n = "+x+"; type m = n; f: func(a: "+x+", b: n, c: list<n>) -> "+x+"; g: func() -> m; } world w { import i; }"),
			"in a:b/i#f(a: "+s+", b: "+s+", c: list<"+s+">) -> "+s, "in a:b/i#g() -> "+s)
	}
}

// Each kind of definition, within arguments, within what is given, within one another.
func TestDefinitions(t *testing.T) {
	const defs = `
type t = tuple<u8, e>;
record p { a: u8, b: list<v>, c: t }
variant v { none, one(e), two(option<k>) }
enum e { x, y }
flags k { x, z }
resource r;
type kept = own<r>;
type lent = borrow<r>;
type s = r;
`
	const e, k = "enum{x, y}", "flags{x, z}"
	const tt, v = "tuple<u8, " + e + ">", "variant{none, one(" + e + "), two(option<" + k + ">)}"
	const p = "record{a: u8, b: list<" + v + ">, c: " + tt + "}"
	for _, x := range []struct{ name, is string }{{"t", tt}, {"p", p}, {"v", v}, {"e", e}, {"k", k}, {"r", "own 0"}, {"kept", "own 0"}, {"s", "own 0"}, {"own<s>", "own 0"}} {
		line := "f(x: list<" + x.is + ">, y: " + x.is + ") -> option<" + x.is + ">"
		more := "g() -> " + x.is
		within := "h(x: record{one: " + x.is + ", two: variant{a(" + x.is + "), b}})"
		rest := "f: func(x: list<" + x.name + ">, y: " + x.name + ") -> option<" + x.name + ">; g: func() -> " + x.name + "; variant inner { a(" + x.name + "), b } record outer { one: " + x.name + ", two: inner } h: func(x: outer);"
		var res []string
		if x.is == "own 0" {
			res = []string{"import a:b/i#r"}
		}
		comes(t, one("interface i {"+defs+rest+"} world w { import i; }"), append(res, "in a:b/i#"+line, "in a:b/i#"+more, "in a:b/i#"+within)...)
	}
	comes(t, one("interface i {"+defs+"f: func(x: lent, y: borrow<s>, z: borrow<r>, o: own<s>); } world w { export i; }"),
		"export a:b/i#r", "out a:b/i#f(x: borrow 0, y: borrow 0, z: borrow 0, o: own 0)")
	comes(t, one("world w {"+defs+"import f: func(x: p, y: r); export f: func(x: v, y: kept); }"),
		"import #r", "in f(x: "+p+", y: own 0)", "out f(x: "+v+", y: own 0)")
}

// Names: of what is defined, of what is used, by another name, one behind the other.
func TestNames(t *testing.T) {
	const base = "interface base { type x = u8; type y = s8; type z = y; resource r; } "
	for _, x := range []struct{ body, is string }{
		{"use base.{x}; f: func(a: x);", "u8"},
		{"use base.{x as q}; f: func(a: q);", "u8"},
		{"use base.{x as y, y as x}; f: func(a: x);", "s8"},
		{"use base.{z}; f: func(a: z);", "s8"},
		{"use base.{x, y}; f: func(a: tuple<x, y>);", "tuple<u8, s8>"},
		{"use base.{x}; use base.{y}; f: func(a: tuple<y, x>);", "tuple<s8, u8>"},
		{"use base.{x as y}; type x = y; f: func(a: x);", "u8"},
		{"use mid.{q}; f: func(a: q);", "u8"},
		{"use mid.{own-x}; f: func(a: own-x);", "list<u8>"},
		{"use far.{q as x}; f: func(a: list<x>);", "list<u8>"},
		{"use later.{l}; f: func(a: l);", "tuple<u8, char>"},
	} {
		comes(t, one(base+"interface mid { use base.{x as q}; type own-x = list<q>; } interface far { use mid.{q}; } interface i { "+x.body+" } interface later { use base.{x}; record unused { a: nothing } type l = tuple<x, c>; type c = char; } world w { import i; }"),
			"in a:b/i#f(a: "+x.is+")")
	}
	// In the world itself, too.
	comes(t, one(base+"world w { use base.{x, y as n}; type t = list<x>; import f: func(a: t) -> n; export g: func(a: n); }"), "in f(a: list<u8>) -> s8", "out g(a: s8)")
}

// In an interface that is no port names may stand twice: the first definition counts, else the first that is used.
func TestFirstNames(t *testing.T) {
	for _, x := range []struct{ body, is string }{
		{"type n = u8; type n = s8;", "u8"},
		{"use base.{x as n}; type n = s16;", "s16"},
		{"use base.{x as n, y as n};", "u8"},
		{"use base.{y as n}; use base.{x as n};", "s8"},
		{"use base.{n, x as n};", "char"},
		{"use base.{x}; use base.{y as x}; type n = list<x>;", "list<u8>"},
		{"resource n; type n = u8;", "own 0"},
		{"enum n { a } enum n { b }", "enum{a}"},
	} {
		want := []string{"in a:b/i#f(a: " + x.is + ")"}
		if x.is == "own 0" {
			want = append([]string{"import a:b/mid#n"}, want...)
		}
		comes(t, one("interface base { type x = u8; type y = s8; type n = char; } interface mid { "+x.body+" n: func(); n: func(); } interface i { use mid.{n}; f: func(a: n); } world w { import i; }"), want...)
	}
}

// A function's name is none that a type may have.
func TestFunctionsAreNoTypes(t *testing.T) {
	fails(t, api.ErrName, one("interface i { n: func(); f: func(a: n); } world w { import i; }")...)
	fails(t, api.ErrName, one("world w { import n: func(); import f: func(a: n); }")...)
	fails(t, api.ErrName, one("interface i { n: func(); } interface j { use i.{n}; f: func(a: n); } world w { import j; }")...)
	fails(t, api.ErrName, one("interface i { } world w { import i; export f: func(a: i); }")...)
	// What is defined in the world, or in another interface, is not there without being used.
	fails(t, api.ErrName, one("interface i { f: func(a: n); } world w { type n = u8; import i; }")...)
	fails(t, api.ErrName, one("interface i { type n = u8; } interface j { f: func(a: n); } world w { import i; import j; }")...)
	fails(t, api.ErrName, one("interface i { use base.{x as y}; f: func(a: x); } interface base { type x = u8; } world w { import i; }")...)
}

func TestPaths(t *testing.T) {
	all := packs(t,
		"package a:b; interface i { use c:d/k.{x}; f: func(a: x); } interface k { type x = u8; } world w { import i; import c:d/k; import c:d/k@1.0.0; import a:b/k; import c:d/k@2.0.0; }",
		"package c:d@1.0.0; interface k { type x = s8; f: func(a: x); } interface m { } world v { import k; import m; export c:d/k@1.0.0; export c:d/k; }",
		"package c:d; interface k { use j.{x}; g: func(a: x); } interface j { type x = s16; } interface m { } world v { export k; import c:d/k; import a:b/i; } ",
		"package c:d@2.0.0; interface j { type x = char; } interface k { use j.{x}; h: func(a: x); }",
		"package c:e; interface j { type x = bool; }")
	is(t, all, 0, "w", "in a:b/i#f(a: s16)", "in c:d/k#g(a: s16)", "in c:d/k@1.0.0#f(a: s8)", "in c:d/k@2.0.0#h(a: char)")
	is(t, all, 1, "v", "in c:d/k@1.0.0#f(a: s8)", "out c:d/k@1.0.0#f(a: s8)", "out c:d/k#g(a: s16)")
	is(t, all, 2, "v", "in c:d/k#g(a: s16)", "in a:b/i#f(a: s16)", "out c:d/k#g(a: s16)")
}

func TestPathsOfNothing(t *testing.T) {
	const rest = "package c:d@1.0.0; interface k { type x = u8; f: func(); }"
	for _, path := range []string{"k", "c:d/k", "c:d/k@1.0.1", "c:d/i@1.0.0", "c:e/k@1.0.0", "d:c/k@1.0.0", "a:b/k", "a:b/i@1.0.0", "w", "a:b/w"} {
		fails(t, api.ErrName, "package a:b; interface i { } world w { import "+path+"; }", rest)
		fails(t, api.ErrName, "package a:b; interface i { } world w { export "+path+"; }", rest)
		fails(t, api.ErrName, "package a:b; interface i { use "+path+" .{x}; f: func(a: x); } world w { import i; }", rest)
		fails(t, api.ErrName, "package a:b; interface i { } world w { use "+path+" .{x}; export f: func(a: own<x>); }", rest)
		comes(t, []string{"package a:b; interface i { use " + path + " .{x}; f: func(); } world w { use " + path + " .{x as y}; import i; }", rest}, "in a:b/i#f()")
	}
	comes(t, []string{"package a:b; world w { import c:d/k@1.0.0; }", rest}, "in c:d/k@1.0.0#f()")
}

// An interface may use what is in itself, by its name or by its whole path.
func TestUsedFromItself(t *testing.T) {
	comes(t, one("interface i { type x = u8; use i.{x as y}; use a:b/i.{y as z}; resource r; use i.{r as s}; f: func(a: y, b: z, c: s, d: borrow<r>); } world w { import i; }"),
		"import a:b/i#r", "in a:b/i#f(a: u8, b: u8, c: own 0, d: borrow 0)")
}

// The first world, the first interface of a name counts, and each package has its own.
func TestFirstOfAName(t *testing.T) {
	all := packs(t, "package a:b; world w { import i; } world v { import j; } world w { import j; } interface i { f: func(); } interface j { g: func(); } interface i { h: func(); } interface u { use i.{x}; h: func(a: x); }",
		"package a:c; world w { export a:b/i; export a:b/j; }", "package a:b@1.0.0; world v { import f: func(); }")
	is(t, all, 0, "w", "in a:b/i#f()")
	is(t, all, 0, "v", "in a:b/j#g()")
	is(t, all, 1, "w", "out a:b/i#f()", "out a:b/j#g()")
	is(t, all, 2, "v", "in f()")
	fails(t, api.ErrName, "package a:b; interface i { } interface i { type x = u8; } interface j { use i.{x}; f: func(a: x); } world w { import j; }")
	for _, x := range []struct {
		pkg  int
		name string
	}{{-1, "w"}, {3, "w"}, {4, "w"}, {-1 << 63, "w"}, {1<<63 - 1, "w"}, {0, "x"}, {0, ""}, {0, "i"}, {1, "v"}, {2, "w"}, {0, "W"}, {0, "w "}} {
		faults(t, "no world "+x.name, all, x.pkg, x.name, api.ErrName)
	}
	faults(t, "no packages", nil, 0, "", api.ErrName)
	faults(t, "no packages", []api.Package{}, 0, "w", api.ErrName)
}
