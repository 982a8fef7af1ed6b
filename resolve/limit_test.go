package resolve

import (
	"strconv"
	"strings"
	"testing"

	"scarf/api"
)

// row is n names, each for the next one within something, the last one for a type.
func row(n int, within, last string) string {
	s := ""
	for i := range n {
		next := last
		if i < n-1 {
			next = strings.ReplaceAll(within, "_", "t"+strconv.Itoa(i+1))
		}
		s += "type t" + strconv.Itoa(i) + " = " + next + "; "
	}
	return s
}

func TestNamesWithinOneAnother(t *testing.T) {
	in := func(row, more string) []string {
		return one("interface i { " + row + " } interface j { use i.{t0, t1, t1 as n}; f: func(" + more + "); } world w { import j; }")
	}
	for _, within := range []string{"_", "list<_>", "tuple<u8, _>", "result<_, u8>"} {
		// j's name, then t1 to t63: 64 of them; with t0 there is one more.
		if c, e := World(packs(t, in(row(64, within, "u8"), "x: t1")...), 0, "w"); e != api.OK || !isBare(c) {
			t.Error(within, e)
		}
		fails(t, api.ErrState, in(row(64, within, "u8"), "x: t0")...)
		// The last one is not there: it is asked for only if it is not one too many.
		fails(t, api.ErrName, in(row(63, within, "nothing"), "x: t1")...)
		fails(t, api.ErrState, in(row(63, within, "nothing"), "x: t0")...)
		fails(t, api.ErrState, in(row(64, within, "nothing"), "x: t1")...)
		fails(t, api.ErrName, in(row(62, within, "nothing"), "x: t0")...)
	}
	// Behind a name that was looked up others are looked up anew.
	comes(t, in(row(64, "_", "u8"), "x: tuple<t1, n, list<t1>>, y: t1, z: n"), "in a:b/j#f(x: tuple<u8, u8, list<u8>>, y: u8, z: u8)")
	fails(t, api.ErrState, in(row(64, "_", "u8"), "x: t1, y: n, z: t0")...)
	fails(t, api.ErrState, in(row(64, "_", "tuple<u8, other>"), "x: t1")...)
	comes(t, one("interface i { record p { a: t0, b: tuple<t0, u8>, c: t0 } "+row(63, "_", "u8")+"f: func(x: p); } world w { import i; }"),
		"in a:b/i#f(x: record{a: u8, b: tuple<u8, u8>, c: u8})")
}

// A resource's name is one of those that are looked up, of own and borrow, too.
func TestHandlesWithinOneAnother(t *testing.T) {
	in := func(last, x string) []string {
		return one("interface i { resource r; " + row(63, "_", last) + "} interface j { use i.{t0, t1}; f: func(x: " + x + "); } world w { import j; }")
	}
	for _, last := range []string{"r", "own<r>"} {
		comes(t, in(last, "t1"), "import a:b/i#r", "in a:b/j#f(x: own 0)")
		fails(t, api.ErrState, in(last, "t0")...)
	}
	for _, word := range []string{"own", "borrow"} {
		comes(t, in("r", word+"<t1>"), "import a:b/i#r", "in a:b/j#f(x: "+word+" 0)")
		fails(t, api.ErrState, in("r", word+"<t0>")...)
		fails(t, api.ErrType, in(word+"<r>", "own<t1>")...)
		fails(t, api.ErrState, in(word+"<r>", "own<t0>")...)
	}
}

// Names that are used over many interfaces: each is looked up anew.
func TestNamesOverInterfaces(t *testing.T) {
	chain := func(n int, last string) string {
		s := "package a:c; "
		for i := range n {
			s += "interface i" + strconv.Itoa(i) + " { "
			if i < n-1 {
				s += "use i" + strconv.Itoa(i+1) + ".{x}; } "
			} else {
				s += last + " } "
			}
		}
		return s
	}
	const direct = "package a:b; world w { import g: func(); use a:c/i0.{x}; import f: func(a: x); }"
	comes(t, []string{direct, chain(63, "type x = u8;")}, "in g()", "in f(a: u8)")
	fails(t, api.ErrState, direct, chain(64, "type x = u8;"))
	fails(t, api.ErrState, direct, chain(63, "type x = y; type y = u8;"))
	comes(t, []string{direct, chain(62, "type x = y; type y = u8;")}, "in g()", "in f(a: u8)")
	comes(t, []string{direct, chain(63, "resource x;")}, "import a:c/i62#x", "in g()", "in f(a: own 0)")
	fails(t, api.ErrName, direct, chain(63, ""))
	fails(t, api.ErrState, direct, chain(64, ""))
	// An interface that is not there has no name that might be one too many.
	fails(t, api.ErrName, direct, chain(63, "use nothing.{x};"))
	fails(t, api.ErrState, direct, chain(63, "use i0.{y as x};"))
	fails(t, api.ErrName, direct, chain(62, "use i0.{y as x};"))
}

// Names that stand for themselves.
func TestNamesForThemselves(t *testing.T) {
	for _, x := range []string{
		"type a = a;", "type a = b; type b = a;", "type a = b; type b = c; type c = b;", "type a = list<a>;", "record a { x: a }", "record a { x: u8, y: b } variant b { none, some(option<a>) }",
		"use i.{a};", "use a:b/i.{a};", "use j.{a};", "use k.{x as a};", "type a = own<a>;", "type a = borrow<b>; type b = a;", "type a = tuple<u8, a>;", "type a = result<_, a>;",
	} {
		const rest = "} interface j { use i.{a}; } interface k { type x = option<b>; use i.{a as b}; } world w { import i; }"
		fails(t, api.ErrState, one("interface i { "+x+" f: func(x: a); "+rest)...)
		fails(t, api.ErrState, one("interface i { "+x+" f: func(x: own<a>); "+rest)...)
		fails(t, api.ErrState, one("interface i { "+x+" f: func() -> list<a>; "+rest)...)
		comes(t, one("interface i { "+x+" f: func(); "+rest), "in a:b/i#f()")
	}
	fails(t, api.ErrState, one("world w { use i.{a}; import f: func(x: a); } interface i { use j.{b as a}; } interface j { use i.{a as b}; }")...)
	// With so much else within, there are too many types ahead of that.
	fails(t, api.ErrFull, one("interface i { type a = tuple<u8, u8, u8, u8, u8, u8, a>; f: func(x: a); } world w { import i; }")...)
	fails(t, api.ErrState, one("interface i { type a = tuple<a, u8, u8, u8, u8, u8, u8>; f: func(x: a); } world w { import i; }")...)
	fails(t, api.ErrName, one("interface i { type a = tuple<nothing, a>; f: func(x: a); } world w { import i; }")...)
	fails(t, api.ErrState, one("interface i { type a = tuple<a, nothing>; f: func(x: a); } world w { import i; }")...)
}

// parts is a type of as many, itself among them.
func parts(n int) string {
	if n == 1 {
		return "u8"
	}
	var l []string
	for n--; n > 65; n -= 65 {
		l = append(l, parts(65))
	}
	if len(l) > 0 {
		return "tuple<" + strings.Join(append(l, parts(n)), ", ") + ">"
	}
	return "tuple<u8" + strings.Repeat(", u8", n-1) + ">"
}

// fits looks whether a function fits into an interface, and how many functions there are then.
func fits(t *testing.T, what string, some int, texts ...string) {
	t.Helper()
	if c, e := World(packs(t, texts...), 0, "w"); e != api.OK || !isBare(c) || len(c.Ins) != some || len(c.Outs) != some {
		t.Errorf("%s: %d %d %d", what, e, len(c.Ins), len(c.Outs))
	}
}

// The types of a function, beside those that a text says.
func TestPartsOfAFunction(t *testing.T) {
	const defs = "resource r; type one = u8; type two = one; type s = r; type w = s; record p { x: u8, y: two } variant v { x, y(u8), z } enum e { x, y } flags h { x, y } type res = result<u8>; type none = result; type ten = tuple<u8, u8, u8, u8, u8, u8, u8, u8, u8>; type ten-too = ten; type ten-three = ten-too; type in-list = list<ten-three>; "
	for _, x := range []struct {
		more string
		n    int
	}{
		{"", 0}, {"y: u8", 1}, {"y: u8, z: s8", 2}, {"y: string", 1}, {"y: list<u8>", 2}, {"y: option<u8>", 2}, {"y: result", 1}, {"y: result<u8>", 2}, {"y: result<_, u8>", 2}, {"y: result<u8, u8>", 3}, {"y: tuple<u8, list<u8>>", 4},
		{"y: one", 2}, {"y: two", 2}, {"y: list<two>", 3}, {"y: r", 1}, {"y: s", 1}, {"y: w", 1}, {"y: own<r>", 1}, {"y: borrow<r>", 1}, {"y: own<s>", 1}, {"y: borrow<w>", 1}, {"y: list<own<r>>, z: borrow<r>", 3},
		{"y: ten", 11}, {"y: ten-too", 11}, {"y: ten-three, z: ten", 22}, {"y: in-list", 13},
		{"y: p", 5}, {"y: v", 3}, {"y: e", 2}, {"y: h", 2}, {"y: res", 3}, {"y: none", 2}, {"y: result<p, v>", 9},
		{"y: far", 2}, {"y: far-one", 2}, {"y: far-r", 1}, {"y: own<far-r>", 1}, {"y: option<far-s>", 2},
	} {
		all := func(n int, x string) []string {
			return one("interface base { " + defs + "} interface far { use base.{two, one, r, s}; } interface i { use far.{two as far, one as far-one, r as far-r, s as far-s}; " + defs + strings.ReplaceAll(x, "@", parts(n)) + " } world w { import i; export i; }")
		}
		f := "f: func(x: @, " + x.more + "); g: func(x: @, " + x.more + ");"
		fits(t, x.more, 2, all(500-x.n, f)...)
		fails(t, api.ErrFull, all(501-x.n, f)...)
		fails(t, api.ErrFull, all(502-x.n, f)...)
		// It does not matter where they stand.
		f = "f: func(" + x.more + ", "[:2*min(x.n, 1)] + "x: @);"
		if x.n > 0 {
			f = "f: func(" + x.more + ", x: @);"
		}
		fits(t, x.more, 1, all(500-x.n, f)...)
		fails(t, api.ErrFull, all(501-x.n, f)...)
		f = "f: func(" + x.more + ") -> @;"
		fits(t, x.more, 1, all(500-x.n, f)...)
		fails(t, api.ErrFull, all(501-x.n, f)...)
	}
}

// A method's self is one of its types, and what a constructor gives.
func TestPartsOfAResource(t *testing.T) {
	for _, x := range []struct {
		f string
		n int
	}{
		{"f: func(x: @);", 1}, {"f: func() -> @;", 1}, {"f: func(x: r) -> @;", 2}, {"constructor(x: @);", 1}, {"constructor(x: @, y: r);", 2}, {"f: static func(x: @);", 0}, {"f: static func() -> @;", 0}, {"f: static func(x: r) -> @;", 1},
	} {
		text := func(n int) string {
			return "package a:b; interface i { resource r { " + strings.ReplaceAll(x.f, "@", parts(n)) + " } } world w { import i; export i; }"
		}
		fits(t, x.f, 1, text(500-x.n))
		fails(t, api.ErrFull, text(501-x.n))
	}
}

// In the world itself, and by names alone: t and what it is for are 126 types, x and what it is for are 2.
func TestPartsByNames(t *testing.T) {
	defs := "package a:b; world w { type x = u8; type t = tuple<x" + strings.Repeat(", x", 61) + ">; type n = tuple<t, t, t, " + strings.Repeat("x, ", 59)
	args := "a: t, b: t, c: t, " + times(60, "x#: x, ")
	for _, x := range []struct {
		last string
		e    api.Errno
	}{{"u8", api.OK}, {"x", api.OK}, {"list<x>", api.ErrFull}, {"option<u8>", api.OK}, {"tuple<u8, u8>", api.ErrFull}} {
		text := defs + "u8>; import f: func(" + args + "y: " + x.last + "); export f: func(" + args + "y: " + x.last + "); }"
		if c, e := World(packs(t, text), 0, "w"); e != x.e || e != api.OK != isEmpty(c) {
			t.Error(x.last, e)
		}
		text = defs + x.last + ">; export f: func() -> n; import f: func() -> n; }"
		if c, e := World(packs(t, text), 0, "w"); e != x.e || e != api.OK != isEmpty(c) {
			t.Error(x.last, e)
		}
	}
}

// What is told first at the last type that there may be, and at the next one.
func TestFirstAtTheLastPart(t *testing.T) {
	text := func(n int, more string) []string {
		return one("interface i { " + row(64, "_", "other") + " } interface j { use i.{t0, t1, t2}; use nothing.{x}; resource r; f: func(x: " + parts(n) + ", y: " + more + "); } world w { import j; }")
	}
	for _, x := range []struct {
		more string
		e    api.Errno
	}{
		{"nothing", api.ErrName}, {"x", api.ErrName}, {"own<nothing>", api.ErrName}, {"own<y>", api.ErrName},
		// t0, then the names in i up to t63, for which the 65th one stands; from t1 that is the last one that may be. On the way to them there is no type.
		{"t0", api.ErrState}, {"own<t0>", api.ErrState}, {"t1", api.ErrState}, {"t2", api.ErrName},
	} {
		fails(t, x.e, text(499, x.more)...)
		fails(t, api.ErrFull, text(500, x.more)...)
	}
}

// many is as many functions, in an interface that has some in resources.
func many(name string, n int) string {
	s := "interface " + name + " { "
	for i := 0; n > 64; i++ {
		some := min(n-64, 64)
		s += "resource r" + strconv.Itoa(i) + " { " + times(some, "fn#: func(); ") + "} "
		n -= some
	}
	return s + times(n, "gn#: func(); ") + "} "
}

func TestFunctionsOfASide(t *testing.T) {
	text := func(ins, outs int) []string {
		return []string{"package a:b; world w { import a:c/x; import f: func(); import a:c/y; export a:d/x; export f: func(); export a:d/y; }",
			"package a:c; " + many("x", 120) + many("y", ins-121), "package a:d; " + many("x", 64) + many("y", outs-65)}
	}
	for _, x := range []struct {
		ins, outs int
		e         api.Errno
	}{{200, 200, api.OK}, {200, 199, api.OK}, {199, 200, api.OK}, {201, 200, api.ErrFull}, {200, 201, api.ErrFull}, {201, 201, api.ErrFull}, {300, 100, api.ErrFull}, {150, 260, api.ErrFull}} {
		c, e := World(packs(t, text(x.ins, x.outs)...), 0, "w")
		if e != x.e || e != api.OK && !isEmpty(c) || e == api.OK && (len(c.Ins) != x.ins || len(c.Outs) != x.outs || !isBare(c)) {
			t.Error(x, e)
		}
	}
	// A name that stands twice is told first, wherever it is.
	fails(t, api.ErrDup, "package a:b; world w { import a:c/x; export a:c/y; import a:c/x; }", "package a:c; "+many("x", 300)+many("y", 100))
	fails(t, api.ErrFull, "package a:b; world w { import a:c/x; export a:c/y; import a:c/y; export a:c/y; }", "package a:c; "+many("x", 300)+many("y", 100))
	fails(t, api.ErrDup, "package a:b; world w { import a:c/x; export a:c/y; import a:c/y; export a:c/y; }", "package a:c; "+many("x", 50)+many("y", 100))
	fails(t, api.ErrDup, "package a:b; world w { import f: func(); import a:c/x; import f: func(); }", "package a:c; "+many("x", 300))
	fails(t, api.ErrDup, "package a:b; world w { export a:c/x; export f: func(); export f: func(); }", "package a:c; "+many("x", 300))
	// All functions are looked at, those too that are too many.
	fails(t, api.ErrName, "package a:b; world w { import a:c/x; import f: func(x: nothing); }", "package a:c; "+many("x", 300))
	fails(t, api.ErrType, "package a:b; world w { import a:c/x; import f: func(x: u8); import a:c/y; import f: func(); }", "package a:c; "+many("x", 300)+"interface y { f: func(x: own<t>); type t = u8; }")
}
