package resolve

import (
	"slices"
	"strings"
	"testing"

	"scarf/api"
)

// A resource of an interface that is imported, exported, or both.
func TestWordsOfPorts(t *testing.T) {
	const i = "interface i { resource r; f: func(a: r); } "
	comes(t, one(i+"world w { import i; }"), "import a:b/i#r", "in a:b/i#f(a: own 0)")
	comes(t, one(i+"world w { export i; }"), "export a:b/i#r", "out a:b/i#f(a: own 0)")
	comes(t, one(i+"world w { export i; import i; }"), "import a:b/i#r", "export a:b/i#r", "in a:b/i#f(a: own 0)", "out a:b/i#f(a: own 1)")
	// The path does not matter, nor is the one in a package another one's.
	comes(t, []string{"package a:b@1.0.0; interface i { resource r; f: func(a: r); } world w { import i; export a:b/i@1.0.0; }"},
		"import a:b/i@1.0.0#r", "export a:b/i@1.0.0#r", "in a:b/i@1.0.0#f(a: own 0)", "out a:b/i@1.0.0#f(a: own 1)")
	comes(t, []string{"package a:b; " + i + " world w { import i; export a:b/i@1.0.0; }", "package a:b@1.0.0; " + i},
		"import a:b/i#r", "export a:b/i@1.0.0#r", "in a:b/i#f(a: own 0)", "out a:b/i@1.0.0#f(a: own 1)")
}

// The world's own is import, on both sides.
func TestWordOfTheWorld(t *testing.T) {
	comes(t, one("world w { resource r { m: func(); } type s = r; import f: func(a: r); export g: func(a: s) -> own<s>; }"),
		"import #r", "in f(a: own 0)", "out g(a: own 0) -> own 0")
	comes(t, one("world w { resource r; export g: func(a: r); }"), "import #r", "out g(a: own 0)")
}

// What an interface that is a port uses: export just if both are exported, and it is there as an export.
func TestWordsOfUsed(t *testing.T) {
	const text = "interface i { resource r; } interface j { use i.{r}; f: func(a: r); } interface k { use j.{r as q}; f: func(a: q); } "
	for _, x := range []struct{ ports, words string }{
		{"import j;", "import"}, {"import j; import i;", "import"}, {"import j; export i;", "import"}, {"export i; import j; import i;", "import"},
		{"import k;", "import"}, {"import k; export i;", "import"}, {"import k; export j;", "import import"}, {"import k; export j; export i;", "import export"},
		{"export j;", "import"}, {"export j; import i;", "import"}, {"export j; export i;", "export"}, {"export a:b/i; export j;", "export"}, {"import i; export j; export i;", "export"}, {"import j; export j; export i;", "import export"},
		{"export k;", "import"}, {"export k; export i;", "import"}, {"export k; export j;", "import import"}, {"export i; export k; export j;", "export export"}, {"import j; export i; export k;", "import import"}, {"export k; import k; export j; import j; export i;", "import import export export"},
	} {
		c, e := World(packs(t, "package a:b; "+text+"world w { "+x.ports+" }"), 0, "w")
		if e != api.OK || !isBare(c) {
			t.Fatal(x.ports, e)
		}
		var words []string
		for _, s := range slices.Concat(c.Ins, c.Outs) {
			word, of, _ := strings.Cut(c.Res[s.T[0].R], " ")
			if of != "a:b/i#r" {
				t.Error(x.ports, of)
			}
			words = append(words, word)
		}
		if strings.Join(words, " ") != x.words {
			t.Errorf("%s: %v", x.ports, words)
		}
	}
}

// What the world itself uses: export if the interface is exported, else import.
func TestWordsOfUsedByTheWorld(t *testing.T) {
	const text = "interface i { resource r; } interface j { use i.{r}; } "
	for _, x := range []struct{ body, word string }{
		{"use i.{r};", "import"}, {"use i.{r}; import i;", "import"}, {"use i.{r}; export i;", "export"}, {"use i.{r}; export i; import i;", "export"}, {"use i.{r}; export j;", "import"},
		{"use j.{r};", "import"}, {"use j.{r}; export i;", "import"}, {"use j.{r}; export j;", "import"}, {"use j.{r}; export j; export i;", "export"}, {"use a:b/i.{r as q}; type r = q; export a:b/i;", "export"},
	} {
		comes(t, one(text+"world w { "+x.body+" import f: func(a: r); export g: func(a: borrow<r>); }"),
			x.word+" a:b/i#r", "in f(a: own 0)", "out g(a: borrow 0)")
	}
}

// Texts stand in Res in the order in which they are asked for, each once; what nobody asks for does not.
func TestOrderOfResources(t *testing.T) {
	comes(t, one(`
interface i { resource a; resource b { m: func(x: c, y: a); } resource c; resource d; resource e { constructor(x: d); } resource g { s: static func(x: h); } resource h; f: func(x: c, y: late) -> record-type; resource unused; record record-type { x: list<z> } resource z; type late = own<y>; resource y; }
world w { export i; }`),
		"export a:b/i#b", "export a:b/i#c", "export a:b/i#a", "export a:b/i#e", "export a:b/i#d", "export a:b/i#g", "export a:b/i#h", "export a:b/i#y", "export a:b/i#z",
		"out a:b/i#[method]b.m(self: borrow 0, x: own 1, y: own 2)",
		"out a:b/i#[constructor]e(x: own 4) -> own 3",
		"out a:b/i#[static]g.s(x: own 6)",
		"out a:b/i#f(x: own 1, y: own 7) -> record{x: list<own 8>}")
	comes(t, one("interface i { resource r; g: func() -> r; } interface j { resource r; g: func(x: r); } world w { use j.{r}; import f: func(x: r); export i; import i; import j; export f: func(x: r); }"),
		"import a:b/j#r", "import a:b/i#r", "export a:b/i#r",
		"in f(x: own 0)", "in a:b/i#g() -> own 1", "in a:b/j#g(x: own 0)", "out a:b/i#g() -> own 2", "out f(x: own 0)")
}

// own and borrow: of a resource, of a name of one, also one that is used; of what is none ErrType.
func TestHandles(t *testing.T) {
	const text = "interface far { resource r; type s = r; type o = own<r>; type b = borrow<r>; type l = list<r>; enum e { x } record p { x: r } } interface i { use far.{r as u, s, o, b, l, e, p}; type n = s; type m = u; type q = o; "
	for _, s := range []string{"u", "s", "n", "m"} {
		comes(t, one(text+"f: func(x: own<"+s+">, y: borrow<"+s+">, z: list<option<borrow<"+s+">>>) -> option<own<"+s+">>; } world w { import i; }"),
			"import a:b/far#r", "in a:b/i#f(x: own 0, y: borrow 0, z: list<option<borrow 0>>) -> option<own 0>")
	}
	for _, s := range []string{"o", "b", "l", "e", "p", "q"} {
		for _, word := range []string{"own", "borrow"} {
			x := word + "<" + s + ">"
			fails(t, api.ErrType, one(text+"f: func(x: "+x+"); } world w { import i; }")...)
			fails(t, api.ErrType, one(text+"f: func(x: tuple<u8, "+x+">); } world w { import i; }")...)
			fails(t, api.ErrType, one(text+"f: func() -> option<"+x+">; } world w { import i; }")...)
			fails(t, api.ErrType, one(text+"type t = "+x+"; resource z { f: func(x: t); } } world w { export i; }")...)
		}
	}
	// A resource has no types within: own of a name of own is own of what is none.
	fails(t, api.ErrType, one("world w { resource r; type o = own<r>; type p = o; import f: func(x: own<p>); }")...)
	comes(t, one("world w { resource r; type o = own<r>; type p = o; import f: func(x: p, y: o); }"), "import #r", "in f(x: own 0, y: own 0)")
}

// What is given has no borrow within, at whatever depth, and by whatever name.
func TestBorrowsThatAreGiven(t *testing.T) {
	const text = "interface far { resource r; type b = borrow<r>; } interface i { use far.{r, b}; type c = b; type l = list<c>; record p { x: u8, y: option<b> } variant v { one, two(c) } record deep { p: p } "
	for _, s := range []string{"borrow<r>", "b", "c", "l", "p", "v", "deep", "list<borrow<r>>", "option<b>", "result<_, c>", "result<c>", "result<u8, deep>", "tuple<u8, tuple<s8, v>>", "tuple<own<r>, borrow<r>>"} {
		fails(t, api.ErrType, one(text+"f: func() -> "+s+"; } world w { import i; }")...)
		fails(t, api.ErrType, one(text+"f: func() -> "+s+"; } world w { export i; }")...)
		fails(t, api.ErrType, one(text+"resource s { f: func() -> "+s+"; } } world w { import i; }")...)
		fails(t, api.ErrType, one(text+"resource s { f: static func(x: u8) -> "+s+"; } } world w { import i; }")...)
		fails(t, api.ErrType, one("interface i { resource r; type b = borrow<r>; type c = b; type l = list<c>; record p { x: u8, y: option<b> } variant v { one, two(c) } record deep { p: p } } world w { use i.{r, b, c, l, p, v, deep}; export f: func() -> "+s+"; }")...)
		if c, e := World(packs(t, "package a:b; "+text+"resource s { f: func(x: "+s+"); g: static func(x: "+s+"); constructor(x: "+s+"); } h: func(x: "+s+"); } world w { import i; }"), 0, "w"); e != api.OK || !isBare(c) || len(c.Ins) != 4 {
			t.Error(s, e)
		}
	}
}
