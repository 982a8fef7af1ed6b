package wit

import (
	"slices"
	"strings"
	"testing"

	"scarf/api"
	"scarf/lex"
)

// full has each thing that there is.
const full = `package a:b@1.2.3;
interface i {
  use x .{a, b as c};
  use a:b/c@0.1.0 .{d};
  type t = tuple<u8, list<own<r>>>;
  record r { a: option<borrow<r>>, b: result, }
  variant v { a, b(result<_, string>), }
  enum e { a, %type }
  flags f { a }
  resource p;
  resource q { constructor(a: u8, b: t,); m: func() -> result<u8>; s: static func(); }
  f: func(a: bool, b: result<s8, u16>) -> char;
}
world w {
  use y .{z};
  type u = i;
  import f: func();
  import i;
  export a:b/c@0.1.0;
  export a:%func/c;
  export g: func(x: u64,) -> s32;
}
`

// refused looks whether a text is refused at a place, which is marked by ^ in it (and left out), and that the second reader refuses it there, too.
func refused(t *testing.T, marked string, want api.Errno) {
	t.Helper()
	before, after, ok := strings.Cut(marked, "^")
	if !ok {
		t.Fatal("no mark", marked)
	}
	s := before + after
	p, at, e := Parse(s)
	if e != want || at != len(before) || !same(p, api.Package{}) {
		t.Errorf("%s: %d at %d, not %d at %d", marked, e, at, want, len(before))
	}
	if at, e := plainParse(s); e != want || at != len(before) {
		t.Errorf("%s: the second reader: %d at %d, not %d at %d", marked, e, at, want, len(before))
	}
}

// taken looks whether a text is read as a package.
func taken(t *testing.T, s string, want api.Package) {
	t.Helper()
	p, at, e := Parse(s)
	if e != api.OK || at != 0 || !same(p, want) {
		t.Errorf("%s: %d at %d: %v, not %v", s, e, at, p, want)
	}
	if at, e := plainParse(s); e != api.OK || at != 0 {
		t.Errorf("%s: the second reader: %d at %d", s, e, at)
	}
	if e := Check(p); e != api.OK {
		t.Errorf("%s: may not be written: %d", s, e)
	}
}

// in sets a text into an interface.
func in(s string) string { return "package a:b; interface i { " + s + " }" }

// ofType sets a type's text into a text.
func ofType(s string) string { return in("type n = " + s + ";") }

// ofWorld sets a text into a world.
func ofWorld(s string) string { return "package a:b; world w { " + s + " }" }

// closed puts a brace behind a text, if its fault is not at its end.
func closed(s string) string {
	if strings.HasSuffix(s, "^") {
		return s
	}
	return s + " }"
}

func TestParseForms(t *testing.T) {
	for _, s := range []string{
		"^", "  ^", "// x\n ^", "^interface i {}", "^world", "^%package a:b;", "^;", "^a:b;", "^1.2.3",
		"package^", "package ^;", "package ^use:b;", "package a^", "package a^;", "package a ^b;", "package a:^", "package a:^;", "package a:^func;", "package a:b^", "package a:b ^c;",
		"package a:b^/c;", "package a:b^:c;", "package a:b@^", "package a:b@^;", "package a:b@^c;", "package a:b@1.2.3^", "package a:b@1.2.3^@1.2.3;", "package a:b@1.2.3 ^1.2.3;", "package a:b ^1.2.3;",
		"package a:b;^;", "package a:b; ^package a:b;", "package a:b; ^f: func();", "package a:b; ^%interface i {}", "package a:b; ^use x .{y};", "package a:b; ^}", "package a:b; ^type t = u8;", "package a:b; ^import i;",
		"package a:b; interface^", "package a:b; interface ^{", "package a:b; interface ^interface {}", "package a:b; interface i^", "package a:b; interface i^;", "package a:b; interface i {^", "package a:b; interface i { ^;}", "package a:b; interface i {}^}", "package a:b; interface i {}^;", "package a:b; interface i { ^import f: func(); }", "package a:b; interface i { ^interface j {} }",
		"package a:b; world^", "package a:b; world w^", "package a:b; world w {^", "package a:b; world w { ^f: func(); }", "package a:b; world w { ^%import f: func(); }", "package a:b; world w { ^constructor(); }", "package a:b; world w {} ^w",
	} {
		refused(t, s, api.ErrForm)
	}
	for _, s := range []string{
		"^;", "^constructor();", "^static", "f^", "f ^func();", "f:^", "f: ^();", "f: ^static func();", "f: ^%func();", "f: func^", "f: func^;", "f: func(^", "f: func(^,);", "f: func(^u8);", "f: func(a^);", "f: func(a:^);", "f: func(a: u8^", "f: func(a: u8 ^b: u8);", "f: func(a: u8,^,);", "f: func(a: u8, ^,);", "f: func(a: u8^;", "f: func(^_: u8);",
		"f: func()^", "f: func() ^u8;", "f: func() ->^", "f: func() -> ^;", "f: func() -> ^_;", "f: func() -> ^();", "f: func() -> u8^", "f: func() -> u8 ^-> u8;", "f: func() ^> u8;", "f: func() ^= u8;", "f: func()^,",
		"use^", "use ^;", "use ^use .{a};", "use x^", "use x^;", "use x^{a};", "use x:^", "use x:^/y .{a};", "use x:y^", "use x:y ^.{a};", "use x:y ^z .{a};", "use x:y/^", "use x:y/z^", "use x:y/z^;", "use x^@1.2.3 .{a};", "use x:y^@1.2.3 .{a};", "use x:y/z@ ^.{a};", "use x:y/z@1.2.3 ^{a};",
		"use x .^", "use x .^;", "use x .^a;", "use x .{^", "use x .{^};", "use x .{^,};", "use x .{a^;", "use x .{a ^b};", "use x .{a as^", "use x .{a as ^};", "use x .{a as ^as};", "use x .{a as b ^as c};", "use x .{a as b,^,};", "use x .{^as};", "use x .{a}^", "use x .{a}^}", "use x .{a}^,", "use x ^/y .{a};", "use x:y/z^/a .{a};",
		"type^", "type ^=", "type ^type = u8;", "type t^", "type t^;", "type t ^u8;", "type t =^", "type t = ^;", "type t = ^_;", "type t = u8^", "type t = u8 ^u8;", "type t = u8^}", "type t = ^record;", "type t = ^{};",
		"record^", "record r^", "record r^;", "record r {^", "record r {^}", "record r {^,}", "record r { a ^}", "record r { a^, }", "record r { a: ^}", "record r { a: ^_ }", "record r { a: u8^", "record r { a: u8 ^b: u8 }", "record r { a: u8^; }", "record r { a: u8,^, }", "record r { ^own: u8 }", "record r { a^(u8) }", "record r { a: u8 }^;", "record ^{ a: u8 }",
		"variant^", "variant v^;", "variant v {^}", "variant v {^,}", "variant v { a ^b }", "variant v { a(^) }", "variant v { a(^_) }", "variant v { a(u8^, u8) }", "variant v { a(u8^,) }", "variant v { a(u8) ^(u8) }", "variant v { a^: u8 }", "variant v { a(u8^", "variant v { a(^", "variant v { a^;", "variant v { a,^, }", "variant v { a }^;", "variant v { ^(u8) }", "variant v { ^_ }",
		"enum^", "enum e^;", "enum e {^}", "enum e {^,}", "enum e { a ^b }", "enum e { a^: u8 }", "enum e { a^(u8) }", "enum e { a,^, }", "enum e { a }^;", "enum ^enum { a }", "enum e { a, ^enum }",
		"flags^", "flags f^;", "flags f {^}", "flags f {^,}", "flags f { a ^b }", "flags f { a^: u8 }", "flags f { a,^, }", "flags f { a }^;",
		"resource^", "resource ^;", "resource ^{}", "resource r^", "resource r^,", "resource r {^", "resource r {^}", "resource r {^;}", "resource r { f ^}", "resource r { f: static ^}", "resource r { f: static ^static func(); }", "resource r { ^static f: func(); }", "resource r { f: static ^(); }", "resource r { f: ^}", "resource r { f: ^(); }", "resource r { f: func(); ^; }", "resource r { f: func() ^}", "resource r { constructor ^}", "resource r { constructor^: func(); }", "resource r { constructor ^func(); }", "resource r { constructor() ^-> u8; }", "resource r { constructor() ^}", "resource r { constructor(^,); }", "resource r { constructor(a^); }", "resource r { ^type t = u8; }", "resource r { ^resource q; }", "resource r { ^import f: func(); }", "resource r { f: func(); ^,}", "resource r { f: func(); }^;", "resource r; ^{ f: func(); }",
	} {
		refused(t, closed("package a:b; interface i { "+s), api.ErrForm)
	}
	for _, s := range []string{
		"import^", "import ^;", "import ^func();", "import ^use;", "import f^", "import f ^func();", "import f^, g;", "import f:^", "import f: ^static func();", "import f: ^u8;", "import f: func^;", "import f: func()^", "import f: func()^}", "import a:^;", "import a:b^;", "import a:b ^func();", "import a:b^:c;", "import a:b^@1.2.3;", "import a:b/^;", "import a:b/c^", "import a:b/c^/d;", "import a:b/c@^;", "import a:b/c@1.2.3^", "import a:b/c@1.2.3^@1.2.3;", "import a^@1.2.3;", "import a^/b;", "import a^.{b};", "import ^import i;", "import ^interface i {}", "import ^world;", "import i;^;",
		"export^", "export ^;", "export f^", "export f:^", "export f: ^();", "export a:b^", "export a:%func^();", "export a:b/c^:",
		"use x .{a} ^import i;", "type t = u8; ^f: func();", "record r { a: u8 } ^,",
	} {
		refused(t, closed("package a:b; world w { "+s), api.ErrForm)
	}
}

func TestParseTypeForms(t *testing.T) {
	for _, s := range []string{
		"list^;", "list<^", "list<^>;", "list<^_>;", "list<u8^;", "list<u8^,>;", "list<u8^, u8>;", "list<u8^", "list^(u8);", "list<list<u8>^;",
		"option^;", "option<^>;", "option<^_>;", "option<u8^, u8>;", "option<u8^,>;",
		"tuple^;", "tuple<^>;", "tuple<^,>;", "tuple<^_>;", "tuple<u8 ^u8>;", "tuple<u8,^,>;", "tuple<u8^", "tuple<u8,^", "tuple<u8, ^_>;", "tuple<u8^;", "tuple<a^: u8>;",
		"result<^>;", "result<^", "result<^,>;", "result<^, u8>;", "result<_^>;", "result<_^", "result<_ ^u8>;", "result<_,^>;", "result<_,^", "result<_, ^_>;", "result<_, u8^,>;", "result<u8^", "result<u8,^>;", "result<u8, ^_>;", "result<u8, u8^,>;", "result<u8, u8^, u8>;", "result<u8 ^u8>;", "result<_, u8^", "result^(u8);",
		"own^;", "own<^>;", "own<^own>;", "own<^u8>;", "own<^f32>;", "own<^list<u8>>;", "own<r^;", "own<r^, r>;", "own<r^,>;", "own<^_>;",
		"borrow^;", "borrow<^>;", "borrow<^f64>;", "borrow<r^;", "borrow<r^:b>;",
		"u8^<u8>;", "bool^<a>;", "string^<>;", "a^<u8>;", "a^:b;", "a^.b;", "%list^<u8>;", "^1.2.3;", "^<u8>;", "^(u8);", "^func();", "^record;", "^static;", "^interface;", "^as;", "^->;",
	} {
		for _, open := range []string{"package a:b; interface i { type n = ", "package a:b; interface i { f: func() -> ", "package a:b; world w { import f: func() -> "} {
			refused(t, closed(open+s), api.ErrForm)
		}
		s = strings.TrimSuffix(s, ";")
		if strings.HasSuffix(s, "^") { // other signs may stand there
			continue
		}
		refused(t, in("record r { a: "+s+" }"), api.ErrForm)
		refused(t, in("variant v { a("+s+") }"), api.ErrForm)
		refused(t, in("f: func(a: "+s+");"), api.ErrForm)
		refused(t, ofType("list<"+s+">"), api.ErrForm)
	}
}

func TestParseFloats(t *testing.T) {
	for _, f := range []string{"f32", "f64"} {
		for _, s := range []string{"^F", "list<^F>", "option<^F>", "tuple<^F>", "tuple<u8, ^F>", "result<^F>", "result<_, ^F>", "result<u8, ^F>", "list<list<^F>>", "^F<", "^F F"} {
			s = strings.ReplaceAll(s, "F", f)
			refused(t, ofType(s), api.ErrFloat)
			refused(t, in("f: func() -> "+s+";"), api.ErrFloat)
			refused(t, in("f: func(a: u8, b: "+s+");"), api.ErrFloat)
			refused(t, in("record r { a: "+s+" }"), api.ErrFloat)
			refused(t, in("variant v { a("+s+") }"), api.ErrFloat)
			refused(t, in("resource r { constructor(a: "+s+"); }"), api.ErrFloat)
			refused(t, ofWorld("export f: func(a: "+s+");"), api.ErrFloat)
		}
		refused(t, "package a:b; world w { type t = ^"+f, api.ErrFloat)
		for _, s := range []string{"package ^F:b;", "package a:^F;", "package a:b; interface ^F {}", "package a:b; ^F", in("^F: func();"), in("type ^F = u8;"), in("record r { ^F: u8 }"), in("variant v { ^F }"), in("enum e { a, ^F }"), in("flags f { ^F }"), in("f: func(^F: u8);"), in("use ^F .{a};"), in("use x .{^F};"), in("use x .{a as ^F};"), ofType("own<^F>"), ofType("borrow<^F>"), in("f: ^F;"), ofWorld("import ^F;"), ofWorld("import a:^F/b;"), ofWorld("^F")} {
			refused(t, strings.ReplaceAll(s, "F", f), api.ErrForm)
		}
		taken(t, ofType("%"+f), withType(named(f)))
		taken(t, in("%"+f+": func();"), withFunc(api.Func{Name: f}))
	}
}

// A word of the language is no name, wherever one has to stand, but with a %, which others may have.
func TestParseWords(t *testing.T) {
	for what, p := range places() {
		plain, _ := Print(p("zzz"))
		for _, word := range strings.Fields(allWords) {
			taken(t, strings.ReplaceAll(plain, "zzz", "%"+word), p(word))
			s := strings.ReplaceAll(plain, "zzz", word)
			wantAt, want := plainParse(s)
			if _, at, e := Parse(s); at != wantAt || e != want {
				t.Errorf("%s: %s: %d %d, not %d %d", what, s, at, e, wantAt, want)
			}
			if want == api.OK && what != "named" {
				t.Errorf("%s: %s", what, s)
			}
		}
		for _, name := range []string{"x", "A", "owns", "x-y-Z1", "U8", strings.Repeat("x", 100)} {
			taken(t, strings.ReplaceAll(plain, "zzz", name), p(name))
			taken(t, strings.ReplaceAll(plain, "zzz", "%"+name), p(name))
		}
		for _, name := range []string{"x-", "aB", strings.Repeat("x", 101), "%", "%1"} {
			s := strings.Replace(plain, "zzz", "^"+name, 1)
			refused(t, s, api.ErrForm)
		}
	}
}

func TestParseLex(t *testing.T) {
	refused(t, "interface ^$", api.ErrForm)
	refused(t, "package package a:b^\x00", api.ErrForm)
	refused(t, "type f32 ^01.2.3", api.ErrForm)
	refused(t, "package a:b;^ /* x", api.ErrForm)
	refused(t, "package a:b;^ // x\n /* x", api.ErrForm)
	refused(t, in("use x:y/z@^1.2.3.{a};"), api.ErrForm)
	refused(t, "^"+strings.Repeat(" ", 8193), api.ErrFull)
	refused(t, "^package a:b;"+strings.Repeat(" ", 8193-12), api.ErrFull)
	refused(t, "^$"+strings.Repeat(" ", 8192), api.ErrFull)
	refused(t, strings.Repeat(" ", 8192)+"^", api.ErrForm)
	taken(t, "package a:b;"+strings.Repeat(" ", 8192-12), api.Package{Space: "a", Name: "b"})
	taken(t, "/* /**/ */package// x\na/**/:\tb\r\n;//", api.Package{Space: "a", Name: "b"})
}

// Things of several kinds may stand in any order among each other; those of a kind keep theirs.
func TestParseOrder(t *testing.T) {
	f, g := api.Func{Name: "f"}, api.Func{Name: "g"}
	use := func(s string) api.Use {
		return api.Use{From: api.Path{Name: s}, Names: []string{"a"}, As: []string{""}}
	}
	def := func(s string) api.Def { return api.Def{Kind: api.DefType, Name: s, T: u8} }
	i := api.Iface{Name: "i", Uses: []api.Use{use("x"), use("y")}, Defs: []api.Def{def("t"), def("s")}, F: []api.Func{f, g}}
	w := api.World{Name: "w", Uses: []api.Use{use("x"), use("y")}, Defs: []api.Def{def("t"), def("s")},
		Ins: []api.Port{{F: f}, {From: api.Path{Name: "i"}}}, Outs: []api.Port{{From: api.Path{Name: "i"}}, {F: g}}}
	p := api.Package{Space: "a", Name: "b", Ifaces: []api.Iface{i, {Name: "j"}}, Worlds: []api.World{{Name: "v"}, w}}
	taken(t, `package a:b;
		world v {}
		interface i { f: func(); type t = u8; use x .{a}; g: func(); use y .{a}; type s = u8; }
		world w { export i; import f: func(); type t = u8; export g: func(); use x .{a}; type s = u8; use y .{a}; import i; }
		interface j {}`, p)
	q := withDef(api.Def{Kind: api.DefResource, Name: "r", F: []api.Func{{Kind: 2, Name: "b"}, {Kind: 3}, {Kind: 1, Name: "a"}, {Kind: 3}}})
	taken(t, in("resource r { b: static func(); constructor(); a: func(); constructor(); }"), q)
}

func TestParseCommas(t *testing.T) {
	two := []string{"a", "b"}
	for _, x := range []struct {
		s string // with a ~ where a comma may be, or not
		p api.Package
	}{
		{in("f: func(a: u8~);"), withFunc(api.Func{Name: "f", P: two[:1], T: []api.Type{u8}})},
		{in("f: func(a: u8, b: u8~);"), withFunc(api.Func{Name: "f", P: two, T: []api.Type{u8, u8}})},
		{in("resource r { constructor(a: u8~); }"), withFunc(api.Func{Kind: 3, P: two[:1], T: []api.Type{u8}})},
		{in("use c .{a~};"), withUse(api.Use{From: api.Path{Name: "c"}, Names: two[:1], As: []string{""}})},
		{in("use c .{a, b as a~};"), withUse(api.Use{From: api.Path{Name: "c"}, Names: two, As: []string{"", "a"}})},
		{in("record n {a: u8~}"), withDef(api.Def{Kind: 2, Name: "n", T: api.Type{Kind: 13, Names: two[:1], L: []api.Type{u8}}})},
		{in("variant n {a, b(u8)~}"), withDef(api.Def{Kind: 3, Name: "n", T: api.Type{Kind: 15, Names: two, L: []api.Type{none, u8}}})},
		{in("variant n {a(u8), b~}"), withDef(api.Def{Kind: 3, Name: "n", T: api.Type{Kind: 15, Names: two, L: []api.Type{u8, none}}})},
		{in("enum n {a, b~}"), withDef(api.Def{Kind: 4, Name: "n", T: api.Type{Kind: 16, Names: two}})},
		{in("flags n {a, b~}"), withDef(api.Def{Kind: 5, Name: "n", T: api.Type{Kind: 19, Names: two}})},
		{ofType("tuple<u8~>"), withType(api.Type{Kind: 14, L: []api.Type{u8}})},
		{ofType("tuple<u8, u8~>"), withType(api.Type{Kind: 14, L: []api.Type{u8, u8}})},
		{ofType("list<tuple<u8~>>"), withType(listOf(api.Type{Kind: 14, L: []api.Type{u8}}))},
	} {
		taken(t, strings.ReplaceAll(x.s, "~", ""), x.p)
		taken(t, strings.ReplaceAll(x.s, "~", ","), x.p)
		refused(t, strings.ReplaceAll(x.s, "~", ",^,"), api.ErrForm)
	}
}

// tokensOf cuts a text into texts of tokens.
func tokensOf(t *testing.T, s string) []string {
	l, _, e := lex.Cut(s)
	if e != api.OK {
		t.Fatal(e)
	}
	var out []string
	for _, x := range l {
		out = append(out, map[bool]string{true: "%"}[x.Kind == api.TokName]+x.S)
	}
	return out
}

// alike looks whether both readers say the same of tokens.
func alike(t *testing.T, l []string) {
	t.Helper()
	s := strings.Join(l, " ")
	wantAt, want := plainParse(s)
	if p, at, e := Parse(s); at != wantAt || e != want || e != api.OK && !same(p, api.Package{}) {
		t.Errorf("%s: %d at %d, not %d at %d", s, e, at, want, wantAt)
	}
}

func TestParseChanged(t *testing.T) {
	p, at, e := Parse(full)
	if e != api.OK {
		t.Fatal(at, e)
	}
	text, _ := Print(p)
	if q, _, _ := Parse(text); !same(p, q) {
		t.Error(text)
	}
	others := append(strings.Fields(allWords), ":", ";", ",", ".", "/", "{", "}", "(", ")", "<", ">", "=", "@", "_", "->", "1.2.3", "a", "%own")
	l := tokensOf(t, full)
	for at := range len(l) + 1 {
		s := strings.Join(l[:at], " ")
		whole := at == len(l) || at > 0 && l[at-1] == "}" && l[at] == "world" || at == 7
		if _, where, e := Parse(s); (e == api.OK) != whole || !whole && (e != api.ErrForm || where != len(s)) {
			t.Errorf("%s ends: %d at %d", s, e, where)
		}
		alike(t, l[:at])
		if at == len(l) {
			break
		}
		alike(t, slices.Delete(slices.Clone(l), at, at+1))
		for _, x := range others {
			alike(t, slices.Insert(slices.Clone(l), at, x))
			m := slices.Clone(l)
			m[at] = x
			alike(t, m)
		}
	}
}

func TestParseDeep(t *testing.T) {
	around := [][2]string{{"list<", ">"}, {"option<", ">"}, {"tuple<", ">"}, {"tuple<u8, ", ">"}, {"tuple<", ",>"}, {"result<", ">"}, {"result<_, ", ">"}, {"result<", ", u8>"}, {"result<u8, ", ">"}}
	things := []string{"u8", "f32", "f64", "x", "%x", "result", "list<u8>", "tuple<>", "own<r>", "own", "->", "_", ">", ",", ";", "(", "1.2.3", "record", "}", "result<_, u8>", ":"}
	for _, x := range around {
		for n := range 20 {
			open, end := strings.Repeat(x[0], n), strings.Repeat(x[1], n)
			for _, thing := range things {
				for _, s := range []string{ofType(open + thing + end), in("f: func() -> " + open + thing + end + ";"), in("f: func(a: " + open + thing + end + ");"), in("record r { a: " + open + thing + end + "}"), in("variant v { a(" + open + thing + end + ")}")} {
					alike(t, []string{s})
				}
			}
			alike(t, []string{"package a:b; interface i { type t = " + open})
			refusedAt(t, n, x[0])
		}
		deep := strings.Repeat(x[0], 15) + strings.TrimSuffix(x[0], "u8, ") // an u8 there would be too deep itself
		for _, thing := range things {
			if thing == "_" && strings.HasSuffix(deep, "result<") {
				continue
			}
			refused(t, "package a:b; interface i { type t = "+deep+"^"+thing, api.ErrFull)
			refused(t, "package a:b; world w { import f: func(a: u8, b: "+deep+"^"+thing, api.ErrFull)
		}
		refused(t, "package a:b; interface i { type t = "+deep+"^", api.ErrFull)
	}
	refused(t, ofType(strings.Repeat("result<", 16)+"_, ^u8"+strings.Repeat(">", 16)), api.ErrFull)
	refused(t, ofType(strings.Repeat("result<", 16)+"_^>"), api.ErrForm)
	taken(t, ofType(strings.Repeat("list<", 15)+"result"+strings.Repeat(">", 15)), withType(nested(resultOf(none, none), 15, listOf)))
	taken(t, ofType(strings.Repeat("list<", 15)+"own<r>"+strings.Repeat(">", 15)), withType(nested(api.Type{Kind: api.TOwn, Names: []string{"r"}}, 15, listOf)))
}

// refusedAt looks whether a type within as many others is read just if there are few enough.
func refusedAt(t *testing.T, n int, open string) {
	t.Helper()
	s := ofType(strings.Repeat(open, n) + "u8" + strings.Repeat(">", n))
	if p, _, e := Parse(s); (e == api.OK) != (n < 16) || e != api.OK && e != api.ErrFull || (Check(p) == api.OK) != (n < 16) {
		t.Error(n, s, e)
	}
}

// Things with commas between are too many where another one would begin.
func TestParseFullCommas(t *testing.T) {
	for _, x := range []struct{ open, thing, end string }{
		{"package a:b; interface i { f: func(", "a: u8", "); }"},
		{"package a:b; interface i { resource r { constructor(", "a: list<u8>", "); } }"},
		{"package a:b; world w { export f: func(", "a: r", "); }"},
		{"package a:b; interface i { use c .{", "a", "}; }"},
		{"package a:b; world w { use a:b/c@1.2.3 .{", "a as b", "}; }"},
		{"package a:b; interface i { record n {", "a: u8", "} }"},
		{"package a:b; interface i { variant n {", "a(u8)", "} }"},
		{"package a:b; interface i { variant n {", "a", "} }"},
		{"package a:b; interface i { enum n {", "a", "} }"},
		{"package a:b; world w { flags n {", "a", "} }"},
		{"package a:b; interface i { type t = tuple<", "u8", ">; }"},
		{"package a:b; interface i { type t = list<tuple<", "own<r>", ">>; }"},
	} {
		many := x.open + strings.Repeat(x.thing+", ", 63) + x.thing
		for _, s := range []string{many, many + ","} {
			p, at, e := Parse(s + x.end)
			if e != api.OK || at != 0 || Check(p) != api.OK {
				t.Error(s, at, e)
			}
			alike(t, []string{s + x.end})
		}
		refused(t, many+" ^"+x.thing+x.end, api.ErrForm)
		refused(t, many+"^", api.ErrForm)
		for _, other := range []string{x.thing, "a", "u8", "f32", "%f32", ",", ";", "->", "_", "(", "{", "1.2.3", "use", "a: f32", "a(f64)", "a a", ":", "@", ""} {
			refused(t, many+", ^"+other, api.ErrFull)
			refused(t, many+", ^"+other+", ", api.ErrFull)
			if other != "" {
				refused(t, many+", ^"+other+x.end, api.ErrFull)
			}
		}
		for _, sign := range []string{"}", ")", ">"} {
			if !strings.HasPrefix(x.end, sign) {
				refused(t, many+", ^"+sign, api.ErrFull)
			}
		}
	}
}

// Other things are too many behind the one that is.
func TestParseFullOthers(t *testing.T) {
	iface, world := "package a:b; interface i { ", "package a:b; world w { "
	for _, x := range []struct{ open, thing, broken, end string }{
		{iface, "use c .{a};", "use c .{a}^,", "}"},
		{iface, "type t=u8;", "type t=^_;", "}"},
		{iface, "type t=u8;", "record r {^}", "}"},
		{iface, "enum t {a}", "enum t {a ^b}", "}"},
		{iface, "resource t;", "resource t^,", "}"},
		{iface, "f: func();", "f: func()^}", "}"},
		{iface + "resource r { ", "f: func();", "f: ^;", "}}"},
		{iface + "resource r { ", "constructor();", "constructor(^,);", "}}"},
		{iface + "resource r { ", "f: static func();", "f: static ^;", "}}"},
		{world, "use c .{a};", "use ^.{a};", "}"},
		{world, "flags t {a,}", "flags t ^a", "}"},
		{world, "import i;", "import ^;", "}"},
		{world, "import f: func();", "import f: func()^,", "}"},
		{world, "export i;", "export i^}", "}"},
		{world, "export a:b/c@0.0.1;", "export a:b/^@0.0.1;", "}"},
		{"package a:b; ", "interface i {}", "interface i {^;}", ""},
		{"package a:b; ", "world w {}", "world w ^}", ""},
	} {
		many := x.open + strings.Repeat(x.thing+" ", 64)
		p, at, e := Parse(many + x.end)
		if e != api.OK || at != 0 || Check(p) != api.OK {
			t.Error(many, at, e)
		}
		alike(t, []string{many + x.end})
		for _, behind := range []string{"", "}", "f32", ",", x.thing, "a", "1.2.3", "interface i {}", "world w {}"} {
			refused(t, many+x.thing+" ^"+behind, api.ErrFull)
			refused(t, many+x.thing+" /* x */ ^"+behind, api.ErrFull)
		}
		refused(t, many+x.broken+x.end, api.ErrForm)
	}
	// What is used, definitions, functions, and each other kind, are counted by themselves.
	inside := strings.Repeat("use c .{a}; ", 64) + strings.Repeat("type t = u8; resource r; ", 32)
	for _, s := range []string{iface + inside + strings.Repeat("f: func(); ", 64) + "}", world + inside + strings.Repeat("import i; export i; ", 64) + "}",
		"package a:b; " + strings.Repeat("interface i {} world w {} ", 64)} {
		p, at, e := Parse(s)
		if e != api.OK || at != 0 || Check(p) != api.OK {
			t.Error(s, at, e)
		}
	}
	refused(t, iface+inside+"enum e {a} ^}", api.ErrFull)
	refused(t, world+strings.Repeat("import i; import f: func(); ", 32)+"import i; ^export i; }", api.ErrFull)
}
