package resolve

import (
	"slices"
	"strings"
	"testing"

	"scarf/api"
)

// Names that stand twice, where they may stand once: what an interface, or the world itself, has.
func twice() []string {
	return []string{
		"type a = u8; type a = u8;", "record a { x: u8 } variant a { x }", "enum a { x } flags a { x }", "resource a; type a = u8;", "resource a; resource a;",
		"use j.{x, x};", "use j.{x as a, y as a};", "use j.{x, y as x};", "use j.{y as x, x};", "use j.{x}; use j.{x};", "use j.{x as a}; use nothing.{a};", "use j.{x as a, a};",
		"use j.{x}; type x = u8;", "use j.{y as x}; resource x;", "enum x { a } use j.{x};",
		"resource r { f: func(); f: func(); }", "resource r { f: func(); g: func(); f: static func(); }", "resource r { f: static func(); f: static func(); }",
		"resource r { constructor(); constructor(x: u8); }", "resource r { constructor(); f: func(); constructor(); }",
		"resource r { f: func(self: u8); }", "resource r { f: func(x: u8, self: u8); }", "resource r { g: func(); f: func(x: u8, x: u8); }",
		"resource r { f: static func(x: u8, y: u8, x: s8); }", "resource r { f: static func(self: u8, self: u8); }", "resource r { constructor(x: u8, x: u8); }", "resource r { constructor(self: u8, self: u8); }",
	}
}

// Names of functions, too, in an interface.
func twiceInIface() []string {
	return append(twice(), "f: func(); f: func();", "f: func(); type f = u8;", "resource f; f: func();", "use j.{x}; x: func();", "use j.{x as f}; f: func();", "use j.{f}; g: func(); f: func();",
		"f: func(x: u8, x: u8);", "g: func(); f: func(x: u8, y: u8, x: s8);", "f: func(self: u8, self: u8);")
}

func TestNamesThatStandTwice(t *testing.T) {
	const rest = "interface j { type x = u8; type y = u8; type a = u8; type f = u8; } "
	for _, s := range twiceInIface() {
		fails(t, api.ErrDup, "package a:b; "+rest+"interface i { "+s+" } world w { import i; }")
		fails(t, api.ErrDup, "package a:b; "+rest+"interface i { "+s+" } world w { export i; }")
		fails(t, api.ErrDup, "package a:b; world w { export a:c/i; }", "package a:c; "+rest+"interface i { "+s+" }")
		// An interface that is no port may have it, also one that is used; and another world.
		comes(t, one(rest+"interface i { "+s+" type z = s8; } world w { use i.{z}; import j; import n: func(x: z); } world v { import i; }"), "in n(x: s8)")
	}
	for _, s := range twice() {
		fails(t, api.ErrDup, "package a:b; "+rest+"world w { "+s+" }")
		fails(t, api.ErrDup, "package a:b; "+rest+"world w { import n: func(); "+s+" export m: func(); }")
		comes(t, one(rest+"world v { "+s+" } world w { import n: func(); }"), "in n()")
	}
	for _, s := range []string{"x: u8, x: u8", "x: u8, y: u8, x: s8", "self: u8, self: u8", "a: u8, b: u8, c: u8, c: u8"} {
		fails(t, api.ErrDup, one("world w { import n: func("+s+"); }")...)
		fails(t, api.ErrDup, one("world w { export n: func("+s+"); }")...)
	}
}

// Names that stand in two places of which each has its own.
func TestNamesThatDoNotStandTwice(t *testing.T) {
	comes(t, one("interface i { resource a { constructor(a: u8, self: u8); self: func(a: u8); b: static func(self: u8); a: func(b: u8); } resource b { a: func(a: u8); b: func(); } d: func(d: u8, a: u8); record c { c: u8, a: s8 } record e { x: u8, x: s8 } f: func(x: e); } world w { type i = u8; use i.{a, b as c}; import a: func(a: a); import w: func(); import i: func(); export a: func(i: i); export i: func(); }"),
		"import a:b/i#a", "in a(a: own 0)", "in w()", "in i()", "out a(i: u8)", "out i()")
	comes(t, one("interface i { resource a { constructor(a: u8, self: u8); self: func(a: u8); b: static func(self: u8); a: func(b: u8); } resource b { a: func(a: u8); b: func(); } d: func(d: u8, a: u8); record e { x: u8, x: s8 } f: func(x: e); enum g { x, x } h: func() -> g; } world w { import i; }"),
		"import a:b/i#a", "import a:b/i#b",
		"in a:b/i#[constructor]a(a: u8, self: u8) -> own 0", "in a:b/i#[method]a.self(self: borrow 0, a: u8)", "in a:b/i#[static]a.b(self: u8)", "in a:b/i#[method]a.a(self: borrow 0, b: u8)",
		"in a:b/i#[method]b.a(self: borrow 1, a: u8)", "in a:b/i#[method]b.b(self: borrow 1)",
		"in a:b/i#d(d: u8, a: u8)", "in a:b/i#f(x: record{x: u8, x: s8})", "in a:b/i#h() -> enum{x, x}")
	// An interface that another one uses is no port by that.
	comes(t, one("interface i { use j.{x}; f: func(a: x); } interface j { type x = u8; type y = u8; type y = s8; } world w { import i; export i; }"), "in a:b/i#f(a: u8)", "out a:b/i#f(a: u8)")
}

// Two functions of one name: on one side ErrDup, one on each side may be.
func TestFunctionsThatStandTwice(t *testing.T) {
	const rest = "interface i { f: func(); } interface r { resource r { f: func(); } } interface none { type t = u8; } "
	for _, x := range []string{"@ f: func(); @ f: func(x: u8);", "@ i; @ i;", "@ i; @ a:b/i;", "@ r; @ none; @ r;", "@ f: func(); @ i; @ f: func();", "@ i; @ f: func(); @ r; @ i;"} {
		for _, word := range []string{"import", "export"} {
			fails(t, api.ErrDup, one(rest+"world w { "+strings.ReplaceAll(x, "@", word)+" }")...)
		}
	}
	comes(t, one(rest+"world w { import f: func(); export f: func(); import i; export i; import none; import none; export none; export a:b/none; }"), "in f()", "in a:b/i#f()", "out f()", "out a:b/i#f()")
	comes(t, []string{"package a:b; " + rest + "world w { import i; import a:b/i@1.0.0; import a:c/i; }", "package a:b@1.0.0; " + rest, "package a:c; " + rest}, "in a:b/i#f()", "in a:b/i@1.0.0#f()", "in a:c/i#f()")
}

// Of packages: package by package ErrArg, and ErrDup.
func TestFaultsOfPackages(t *testing.T) {
	good := packs(t, "package a:b; world w { }", "package a:b@1.0.0; world w { }", "package b:a; world w { }", "package a:a; world w { }", "package b:b; world w { }", "package a:b@1.0.1; world w { }")
	for i := range good {
		is(t, good, i, "w")
	}
	bad := api.Package{Space: "a", Name: "B2b"}
	wrong := slices.Clone(good)
	wrong[3].Worlds = []api.World{{Name: "w", Ins: []api.Port{{}}}}
	for i := -1; i < 7; i++ {
		faults(t, "not to be written", wrong, i, "w", api.ErrArg)
		for _, name := range []string{"w", "nothing", ""} {
			faults(t, "one alone", []api.Package{bad}, i, name, api.ErrArg)
			faults(t, "the last one", append(slices.Clone(good), bad), i, name, api.ErrArg)
			faults(t, "the first one", append([]api.Package{bad}, good...), i, name, api.ErrArg)
			for _, p := range good {
				faults(t, "twice", append(slices.Clone(good), p), i, name, api.ErrDup)
				faults(t, "twice, then none", append(slices.Clone(good), p, bad), i, name, api.ErrDup)
				faults(t, "none, then twice", append(slices.Clone(good), bad, p), i, name, api.ErrArg)
				faults(t, "none twice", append(slices.Clone(good), bad, bad), i, name, api.ErrArg)
			}
		}
	}
	// What one of them has within does not make it another one.
	two := packs(t, "package a:b@1.0.0; interface i { }", "package a:b@1.0.0; world w { }")
	faults(t, "two", two, 1, "w", api.ErrDup)
	// One that may not be written has a full name that is there, too.
	wrong[3].Space, wrong[3].Name = "a", "b"
	faults(t, "both", wrong, 0, "w", api.ErrArg)
}

// fault is one that a port has.
type fault struct {
	port, iface string // what stands behind import and export; an interface of the name #
	e           api.Errno
}

func portFaults() []fault {
	in := func(body string, e api.Errno) fault { return fault{"#;", "interface # { " + body + " }", e} }
	free := func(f string, e api.Errno) fault { return fault{"#: func" + f + ";", "", e} }
	l := []fault{
		{"nothing;", "", api.ErrName}, {"a:c/base;", "", api.ErrName}, {"a:b/base@1.0.0;", "", api.ErrName},
		free("(x: u8, x: u8)", api.ErrDup), free("(x: nothing, x: u8)", api.ErrDup), free("(x: full)", api.ErrFull), free("(x: circle)", api.ErrState), free("() -> nothing", api.ErrName), free("(x: bad)", api.ErrName), free("(x: own<full>)", api.ErrFull), free("(x: own<lent>)", api.ErrType), free("() -> lent", api.ErrType),
		in("f: func(x: u8, x: nothing);", api.ErrDup), in("type t = u8; type t = nothing;", api.ErrDup), in("g: func(x: nothing); f: func(); f: func();", api.ErrDup),
		in("use base.{full}; f: func(x: full);", api.ErrFull), in("use base.{circle}; resource r { f: func(x: circle); } g: func(x: nothing);", api.ErrState), in("use base.{absent as t}; f: func() -> t;", api.ErrName), in("use nothing.{t}; resource r { constructor(x: t); }", api.ErrName),
		in("use base.{lent}; resource r { f: static func() -> lent; }", api.ErrType), in("f: func(x: borrow<t>); type t = u8; g: func(x: nothing);", api.ErrType),
	}
	return l
}

// Each two faults of ports, on either side: the first one's is told, in the ports' order, imports first.
func TestFaultsOfTwoPorts(t *testing.T) {
	const defs = "type one = tuple<u8, u8, u8, u8, u8, u8, u8, u8, u8, u8, u8, u8, u8, u8, u8, u8, u8, u8, u8, u8, u8, u8>; type full = tuple<one, one, one, one, one, one, one, one, one, one, one, one, one, one, one, one, one, one, one, one, one, one, one, one>; type circle = circle; resource thing; type lent = borrow<thing>; "
	l := portFaults()
	text := func(a, b fault, x, y string) string {
		p := strings.ReplaceAll(a.iface+"|"+x+" "+a.port, "#", "p")
		q := strings.ReplaceAll(b.iface+"|"+y+" "+b.port, "#", "q")
		ifaceP, portP, _ := strings.Cut(p, "|")
		ifaceQ, portQ, _ := strings.Cut(q, "|")
		return "package a:b; interface base { " + defs + "} " + ifaceP + ifaceQ +
			" world w { use base.{full, circle, thing, lent, absent as bad}; import ok: func(); export ok: func(); " + portP + " " + portQ + " import ok-too: func(); export ok-too: func(); }"
	}
	for _, a := range l {
		fails(t, a.e, text(a, fault{"ok-three: func();", "", api.OK}, "import", "import"))
		for _, b := range l {
			fails(t, a.e, text(a, b, "import", "import"))
			fails(t, a.e, text(a, b, "export", "export"))
			fails(t, a.e, text(a, b, "import", "export"))
			fails(t, b.e, text(a, b, "export", "import"))
			// Behind all imports, ahead of all exports; and behind these.
			twice := " import again: func(); import again: func(); }"
			s := text(a, b, "export", "export")
			fails(t, api.ErrDup, s[:len(s)-2]+twice)
			fails(t, a.e, s[:len(s)-2]+strings.ReplaceAll(twice, "import", "export"))
			s = text(a, b, "import", "export")
			fails(t, a.e, s[:len(s)-2]+twice)
			fails(t, a.e, s[:len(s)-2]+strings.ReplaceAll(twice, "import", "export"))
			// The world's own names stand ahead of all ports.
			fails(t, api.ErrDup, s[:len(s)-2]+" type own-one = u8; enum own-one { x } }")
			fails(t, api.ErrDup, s[:len(s)-2]+" resource own-one { f: func(self: nothing); } }")
		}
	}
}

// Of too many functions likewise.
func TestTooManyAndFaults(t *testing.T) {
	for _, x := range []struct {
		body string
		e    api.Errno
	}{
		{"import a:c/x; export nothing;", api.ErrFull}, {"import a:c/x; export f: func(x: own<t>);", api.ErrFull}, {"import a:c/x; import nothing;", api.ErrName}, {"import a:c/x; export a:c/x;", api.ErrFull},
		{"export a:c/x; export f: func(x: own<t>);", api.ErrType}, {"export a:c/x; export f: func(); export f: func();", api.ErrDup}, {"export a:c/x; import f: func(); import f: func();", api.ErrDup}, {"import a:c/x; export f: func(); export f: func();", api.ErrFull},
		{"export a:c/x; import f: func(x: nothing);", api.ErrName}, {"export a:c/x; export f: func(x: u8, x: u8);", api.ErrDup}, {"export a:c/x; type u = u8;", api.ErrFull}, {"import a:c/x; type t = u8;", api.ErrDup},
	} {
		fails(t, x.e, "package a:b; world w { type t = u8; "+x.body+" }", "package a:c; "+many("x", 201))
	}
}

// Within an interface: names ahead of types, a resource's functions ahead of its own ones, each in its order.
func TestFaultsOfAnInterface(t *testing.T) {
	types := []fault{{iface: "nothing", e: api.ErrName}, {iface: "own<u>", e: api.ErrType}, {iface: "circle", e: api.ErrState}, {iface: "full", e: api.ErrFull}}
	const rest = "type u = u8; type circle = option<circle>; type one = tuple<u8, u8, u8, u8, u8, u8, u8, u8, u8, u8, u8, u8, u8, u8, u8, u8, u8, u8, u8, u8, u8, u8>; type full = tuple<one, one, one, one, one, one, one, one, one, one, one, one, one, one, one, one, one, one, one, one, one, one, one, one>; "
	in := func(s string) []string { return one("interface i { " + rest + s + " } world w { import i; }") }
	for _, a := range types {
		for _, b := range types {
			x, y := a.iface, b.iface
			fails(t, a.e, in("f: func(x: "+x+"); g: func(x: "+y+");")...)
			fails(t, a.e, in("g: func(x: u8); f: func(x: list<"+x+">, y: u8, z: "+y+");")...)
			fails(t, a.e, in("f: func(x: "+x+") -> "+y+";")...)
			fails(t, a.e, in("f: func(x: tuple<u8, "+x+", "+y+">);")...)
			fails(t, a.e, in("f: func(x: p); record p { x: list<"+x+">, y: "+y+" }")...)
			fails(t, a.e, in("f: func() -> v; variant v { a, x(list<"+x+">), y("+y+") }")...)
			fails(t, a.e, in("f: func(x: result<"+x+", "+y+">);")...)
			fails(t, a.e, in("g: func(x: "+y+"); resource r { f: func(x: "+x+"); }")...)
			fails(t, a.e, in("resource r { f: func(x: "+x+"); g: static func(x: "+y+"); }")...)
			fails(t, a.e, in("resource r { f: static func(); constructor(x: "+x+"); } resource s { f: func(x: "+y+"); }")...)
			fails(t, a.e, in("resource r { f: func() -> "+x+"; constructor(x: "+y+"); }")...)
			// A borrow that is given is told behind all types of its function, ahead of the next one.
			fails(t, a.e, in("f: func() -> tuple<borrow<r>, "+x+">; resource r;")...)
			fails(t, a.e, in("f: func(x: "+x+") -> borrow<r>; resource r;")...)
			fails(t, api.ErrType, in("f: func() -> borrow<r>; resource r; g: func(x: "+x+");")...)
			for _, twice := range []string{"type x = " + x + "; type x = u8;", "h: func(); h: func();", "h: func(x: " + x + ", x: u8);", "resource q { f: func(self: u8); }", "use nothing.{x, x};"} {
				fails(t, api.ErrDup, in("f: func(x: "+y+"); "+twice)...)
				fails(t, api.ErrDup, in(twice+" f: func(x: "+y+");")...)
				fails(t, api.ErrDup, in("resource r { f: func(x: "+y+"); } "+twice)...)
			}
			// own of what has faults within: they are told ahead of its own.
			fails(t, a.e, in("f: func(x: own<p>, y: "+y+"); record p { x: u8, y: "+x+" }")...)
			fails(t, api.ErrType, in("f: func(x: own<p>, y: "+y+"); record p { x: u8, y: u8 }")...)
		}
		// What no function takes or gives is not looked at.
		comes(t, in("type x = "+a.iface+"; record p { x: "+a.iface+" } resource r; use nothing.{z}; use i.{absent}; f: func(x: u);"), "in a:b/i#f(x: u8)")
	}
}
