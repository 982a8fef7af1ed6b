package subtype

import (
	"testing"

	"scarf/api"
)

// imports and exports make contracts of functions, with resources x, y and z.
func imports(l ...api.Sig) api.Contract {
	return api.Contract{Res: []string{"import x", "import y", "import z"}, Ins: l}
}

func exports(l ...api.Sig) api.Contract {
	return api.Contract{Res: []string{"export x", "export y", "export z"}, Outs: l}
}

// pairs are functions that are asked for, functions that are there, and what is wrong with them.
var pairs = []struct {
	asked, there []api.Sig
	want         api.Errno
}{
	{nil, nil, api.OK},
	{nil, fns(fn("f", u8)), api.OK},
	{fns(fn("f", u8)), nil, api.ErrName},
	{fns(fn("f", u8)), fns(fn("f", u8)), api.OK},
	{fns(fn("f", u8)), fns(fn("F", u8)), api.ErrName},
	{fns(fn("f", u8)), fns(fn("f ", u8), fn("", u8), fn("ff", u8)), api.ErrName},
	{fns(fn("", u8)), fns(fn("", u8)), api.OK},
	{fns(fn("f", u8)), fns(fn("g", text), fn("f", u8), fn("h", u16)), api.OK},
	{fns(fn("f", u8), fn("g", u16)), fns(fn("g", u16), fn("f", u8)), api.OK},
	{fns(fn("f", u8), fn("g", u16)), fns(fn("f", u8)), api.ErrName},
	{fns(fn("f", u8), fn("g", u16)), fns(fn("g", u16)), api.ErrName},
	// The types of arguments, their names, and what is given.
	{fns(fn("f", u8)), fns(fn("f", u16)), api.ErrType},
	{fns(fn("f", u8)), fns(fn("f", nothing)), api.ErrType},
	{fns(fn("f", nothing)), fns(fn("f", u8)), api.ErrType},
	{fns(fn("f", nothing, u8)), fns(fn("f", nothing, u16)), api.ErrType},
	{fns(fn("f", nothing, u8)), fns(fn("f", nothing)), api.ErrType},
	{fns(fn("f", nothing, u8)), fns(fn("f", nothing, u8, u8)), api.ErrType},
	{fns(fn("f", u8, u8, text)), fns(fn("f", u8, u8, text)), api.OK},
	{fns(fn("f", u8, u8, text)), fns(fn("f", u16, u8, text)), api.ErrType},
	{fns(fn("f", u8, u8, text)), fns(fn("f", u8, text, u8)), api.ErrType},
	{fns(api.Sig{Name: "f", P: letters("a"), T: []api.Type{u8}}), fns(api.Sig{Name: "f", P: letters("b"), T: []api.Type{u8}}), api.ErrType},
	{fns(fn("f", nothing, in(api.TOption, by(api.TRecord, "ab", u8, text)))), fns(fn("f", nothing, in(api.TOption, by(api.TRecord, "ab", u8, text)))), api.OK},
	{fns(fn("f", nothing, in(api.TOption, by(api.TRecord, "ab", u8, text)))), fns(fn("f", nothing, in(api.TOption, by(api.TRecord, "ac", u8, text)))), api.ErrType},
	// Function by function.
	{fns(fn("f", u8), fn("g", u8)), fns(fn("g", u16)), api.ErrName},
	{fns(fn("g", u8), fn("f", u8)), fns(fn("g", u16)), api.ErrType},
	{fns(fn("e", u8), fn("f", u8), fn("g", u8)), fns(fn("g", u16), fn("e", u8)), api.ErrName},
	{fns(fn("e", u8), fn("g", u8), fn("f", u8)), fns(fn("g", u16), fn("e", u8)), api.ErrType},
	// The first of the name.
	{fns(fn("f", u8)), fns(fn("f", u8), fn("f", u16)), api.OK},
	{fns(fn("f", u16)), fns(fn("f", u8), fn("f", u16)), api.ErrType},
	{fns(fn("f", u8), fn("f", u8)), fns(fn("f", u8), fn("f", u16)), api.OK},
	{fns(fn("f", u8), fn("f", u16)), fns(fn("f", u8), fn("f", u16)), api.ErrType},
	{fns(fn("f", u16)), fns(fn("g", u16), fn("f", u8), fn("f", u16), fn("f", u8)), api.ErrType},
	// Resources.
	{fns(fn("f", own(0), lent(1), list(own(2)))), fns(fn("f", own(0), lent(1), list(own(2)))), api.OK},
	{fns(fn("f", own(0))), fns(fn("f", own(1))), api.ErrType},
	{fns(fn("f", own(0))), fns(fn("f", lent(0))), api.ErrType},
	{fns(fn("f", nothing, lent(2))), fns(fn("f", nothing, lent(1))), api.ErrType},
	{fns(fn("f", nothing, tuple(u8, lent(2)))), fns(fn("f", nothing, tuple(u8, lent(2)))), api.OK},
	{fns(fn("f", nothing, tuple(u8, lent(2)))), fns(fn("f", nothing, tuple(u8, lent(0)))), api.ErrType},
	{fns(fn("f", own(3))), fns(fn("f", own(3))), api.ErrType},
	{fns(fn("f", own(-1))), fns(fn("f", own(-1))), api.ErrType},
	{fns(fn("f", own(1<<62))), fns(fn("f", own(1<<62))), api.ErrType},
	{fns(fn("f", own(-1<<63))), fns(fn("f", own(-1<<63))), api.ErrType},
	{fns(fn("f", own(0))), fns(fn("f", own(-1))), api.ErrType},
	{fns(fn("f", own(-1))), fns(fn("f", own(0))), api.ErrType},
}

func TestPairs(t *testing.T) {
	for _, x := range pairs {
		fits(t, imports(x.asked...), imports(x.there...), x.want)
		fits(t, exports(x.there...), exports(x.asked...), x.want)
		links(t, imports(x.asked...), exports(x.there...), x.want)
	}
}

// What is imported is not what is exported.
func TestSides(t *testing.T) {
	f := fn("f", u8)
	var none api.Contract
	fits(t, imports(f), exports(f), api.ErrName)
	fits(t, exports(f), imports(f), api.OK)
	fits(t, imports(f), none, api.ErrName)
	fits(t, none, imports(f), api.OK)
	fits(t, exports(f), none, api.OK)
	fits(t, none, exports(f), api.ErrName)
	links(t, imports(f), imports(f), api.ErrName)
	links(t, imports(f), none, api.ErrName)
	links(t, none, imports(f), api.OK)
	links(t, none, exports(f), api.OK)
	links(t, exports(f), none, api.OK)
	links(t, exports(f), imports(f), api.OK)
	links(t, exports(f), exports(fn("f", u16)), api.OK)
}

// What is imported is asked for ahead of what is exported.
func TestImportsFirst(t *testing.T) {
	for _, x := range pairs {
		for _, y := range pairs {
			want := x.want
			if want == api.OK {
				want = y.want
			}
			res := []string{"import x", "import y", "import z"}
			a := api.Contract{Res: res, Ins: x.asked, Outs: y.there}
			b := api.Contract{Res: res, Ins: x.there, Outs: y.asked}
			fits(t, a, b, want)
			// Links asks for one side alone.
			links(t, api.Contract{Res: imports().Res, Ins: x.asked, Outs: y.asked}, api.Contract{Res: exports().Res, Ins: y.there, Outs: x.there}, x.want)
		}
	}
}

// Resources are the same by their texts: the first one of a text, wherever it stands.
func TestTexts(t *testing.T) {
	for _, x := range []struct {
		asked, there []string // a resource's text behind the word and the blank
		i, k         int      // the one that is asked for, the one that is there
		ok           bool
	}{
		{letters("x"), letters("x"), 0, 0, true},
		{letters("x"), letters("y"), 0, 0, false},
		{letters("x"), nil, 0, 0, false},
		{nil, letters("x"), 0, 0, false},
		{letters("xy"), letters("yx"), 0, 1, true},
		{letters("xy"), letters("yx"), 1, 0, true},
		{letters("xy"), letters("yx"), 0, 0, false},
		{letters("xy"), letters("yx"), 1, 1, false},
		{letters("xy"), letters("zwy"), 1, 2, true},
		{letters("xy"), letters("zwy"), 0, 2, false},
		{letters("xx"), letters("x"), 0, 0, true},
		{letters("xx"), letters("x"), 1, 0, true},
		{letters("x"), letters("xx"), 0, 0, true},
		{letters("x"), letters("xx"), 0, 1, false},
		{letters("xx"), letters("xx"), 1, 1, false},
		{letters("xx"), letters("yxx"), 1, 1, true},
		{letters("x"), letters("X"), 0, 0, false},
		{[]string{""}, []string{""}, 0, 0, true},
		{[]string{" "}, []string{""}, 0, 0, false},
		{[]string{" x"}, []string{" x"}, 0, 0, true},
		{[]string{" x"}, []string{"x"}, 0, 0, false},
		{[]string{"import x"}, []string{"import x"}, 0, 0, true},
		{[]string{"import x"}, []string{"export x"}, 0, 0, false},
		{[]string{"a:b/i@1.0.0#r", "a:b/i#r"}, []string{"a:b/i#r"}, 1, 0, true},
		{[]string{"a:b/i@1.0.0#r", "a:b/i#r"}, []string{"a:b/i#r"}, 0, 0, false},
		{[]string{"\xff"}, []string{"\xff"}, 0, 0, true},
		{[]string{"\xff"}, []string{"\xfe"}, 0, 0, false},
	} {
		want := api.ErrType
		if x.ok {
			want = api.OK
		}
		with := func(word string, l []string) []string {
			var out []string
			for _, s := range l {
				out = append(out, word+s)
			}
			return out
		}
		for _, in := range []func(api.Type) api.Sig{func(x api.Type) api.Sig { return fn("f", x) }, func(x api.Type) api.Sig { return fn("f", nothing, u8, list(x)) }} {
			for _, kind := range []int{api.TOwn, api.TBorrow} {
				asked, there := fns(in(api.Type{Kind: kind, R: x.i})), fns(in(api.Type{Kind: kind, R: x.k}))
				for _, word := range []string{"import ", "export ", "", "other "} {
					fits(t, api.Contract{Res: with(word, x.asked), Ins: asked}, api.Contract{Res: with(word, x.there), Ins: there}, want)
					fits(t, api.Contract{Res: with(word, x.there), Outs: there}, api.Contract{Res: with(word, x.asked), Outs: asked}, want)
				}
				links(t, api.Contract{Res: with("import ", x.asked), Ins: asked}, api.Contract{Res: with("export ", x.there), Outs: there}, want)
			}
		}
	}
}

// Of Links the word import, with its blank, at the text's beginning is the word export; what begins otherwise is no resource of another one.
func TestTurnedTexts(t *testing.T) {
	f := fn("f", own(0))
	texts := []string{"", "x", " ", "import", "export", "import ", "export ", "import x", "export x", "importx", "exportx", "imports x", "exports x", "import  x", "export  x", " import x", " export x", "Import x", "Export x", "IMPORT x", "import import x", "export import x", "import export x", "export export x", "x import ", "x export ", "import\tx", "export\tx", "import \xff", "export \xff", "export import", "export importx", "import x#y import z", "export x#y import z", "export x#y export z"}
	turned := map[string]string{"import ": "export ", "import x": "export x", "import  x": "export  x", "import import x": "export import x", "import export x": "export export x", "import \xff": "export \xff", "import x#y import z": "export x#y import z"}
	for _, s := range texts {
		for _, x := range texts {
			want := api.ErrType
			if y, ok := turned[s]; ok && x == y {
				want = api.OK
			}
			links(t, api.Contract{Res: []string{s}, Ins: fns(f)}, api.Contract{Res: []string{x}, Outs: fns(f)}, want)
			links(t, api.Contract{Res: []string{s, "import z"}, Ins: fns(f)}, api.Contract{Res: []string{x, "export z"}, Outs: fns(f)}, want)
			want = api.ErrType
			if s == x {
				want = api.OK
			}
			fits(t, api.Contract{Res: []string{s}, Ins: fns(f)}, api.Contract{Res: []string{x}, Ins: fns(f)}, want)
			fits(t, api.Contract{Res: []string{x}, Outs: fns(f)}, api.Contract{Res: []string{s}, Outs: fns(f)}, want)
		}
	}
}

// In the second part of Fits the resources of b are looked for among those of a.
func TestSecondPart(t *testing.T) {
	one, two := []string{"x"}, []string{"x", "x"}
	f0, f1 := fn("f", own(0)), fn("f", own(1))
	fits(t, api.Contract{Res: two, Ins: fns(f1)}, api.Contract{Res: one, Ins: fns(f0)}, api.OK)
	fits(t, api.Contract{Res: two, Outs: fns(f1)}, api.Contract{Res: one, Outs: fns(f0)}, api.ErrType)
	fits(t, api.Contract{Res: one, Ins: fns(f0)}, api.Contract{Res: two, Ins: fns(f1)}, api.ErrType)
	fits(t, api.Contract{Res: one, Outs: fns(f0)}, api.Contract{Res: two, Outs: fns(f1)}, api.OK)
	// Both parts by their own: what is imported as 1 and 0, is exported as 1 and 0.
	a := api.Contract{Res: letters("xy"), Ins: fns(fn("f", own(1), lent(0))), Outs: fns(fn("f", own(0), lent(1)))}
	b := api.Contract{Res: letters("zyx"), Ins: fns(fn("f", own(1), lent(2))), Outs: fns(fn("f", own(2), lent(1)))}
	fits(t, a, b, api.OK)
	b.Outs = fns(fn("f", own(1), lent(2)))
	fits(t, a, b, api.ErrType)
	// Resources that no function has are not asked for.
	fits(t, api.Contract{Res: letters("x"), Ins: fns(fn("f", u8))}, api.Contract{Res: letters("yz"), Ins: fns(fn("f", u8))}, api.OK)
	links(t, api.Contract{Res: letters("x"), Ins: fns(fn("f", u8))}, api.Contract{Res: letters("yz"), Outs: fns(fn("f", u8))}, api.OK)
}
