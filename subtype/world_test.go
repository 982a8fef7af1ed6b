package subtype

import (
	"slices"
	"testing"

	"scarf/api"
	"scarf/resolve"
	"scarf/wit"
)

// Worlds by name, and what they come to.
const worlds = `package a:b@1.0.0;
interface i { resource r { constructor(x: u8); m: func(y: r) -> r; s: static func() -> list<r>; } resource q; f: func(x: borrow<r>, y: q); }
interface j { use i.{r, q as z}; resource s; g: func(x: s, y: r, z: borrow<z>) -> list<r>; }
interface k { record p { a: u8, b: option<string> } variant v { n, p(p) } enum e { x, y } flags h { x, y } l: func(x: p, y: v, z: tuple<e, h>) -> result<p, v>; }
world none { }
world in-i { import i; }
world in-j { import j; }
world in-k { import k; }
world in-i-j { import i; import j; }
world in-j-i { import j; import i; }
world all-in { import k; import j; import i; import f: func(x: u8); }
world out-i { export i; }
world out-j { export j; }
world out-k { export k; }
world out-i-j { export i; export j; }
world out-j-i { export j; export i; }
world all-out { export k; export j; export f: func(x: u8); export i; }
world other-f { export f: func(y: u8); }
world both { import i; import k; export i; export k; }
world some { use k.{p}; resource t; import f: func(x: p, y: t); export g: func(x: borrow<t>) -> p; }
world more { use k.{p}; resource u; resource t; import h: func(x: u); import f: func(x: p, y: t); export g: func(x: borrow<t>) -> p; }
`

func contracts(t *testing.T) map[string]api.Contract {
	t.Helper()
	p, at, e := wit.Parse(worlds)
	if e != api.OK {
		t.Fatal(e, at)
	}
	all := map[string]api.Contract{}
	for _, w := range p.Worlds {
		c, e := resolve.World([]api.Package{p}, 0, w.Name)
		if e != api.OK {
			t.Fatal(w.Name, e)
		}
		all[w.Name] = c
	}
	return all
}

// What a world comes to fits itself; what fits what fits something fits that.
func TestWorldsFit(t *testing.T) {
	all := contracts(t)
	type two struct{ a, b string }
	ok := map[two]int{}
	for a := range all {
		for b := range all {
			fits(t, all[a], all[b], plainFits(all[a], all[b]))
			if Fits(all[a], all[b]) == api.OK {
				ok[two{a, b}]++
			}
		}
		fits(t, all[a], all[a], api.OK)
	}
	for x := range ok {
		for y := range ok {
			if x.b == y.a {
				fits(t, all[x.a], all[y.b], api.OK)
			}
		}
	}
	// Each fits where no more is exported, and no less imported.
	want := map[string][]string{
		"none":    {"in-i", "in-j", "in-k", "in-i-j", "in-j-i", "all-in"},
		"in-i":    {"in-i-j", "in-j-i", "all-in"},
		"in-j":    {"in-i-j", "in-j-i", "all-in"},
		"in-k":    {"all-in"},
		"in-i-j":  {"in-j-i", "all-in"},
		"in-j-i":  {"in-i-j", "all-in"},
		"out-i":   {"none", "in-i", "in-j", "in-k", "in-i-j", "in-j-i", "all-in"},
		"out-i-j": {"none", "out-i", "out-j-i", "in-i", "in-j", "in-k", "in-i-j", "in-j-i", "all-in"},
		"out-j-i": {"none", "out-i", "out-i-j", "in-i", "in-j", "in-k", "in-i-j", "in-j-i", "all-in"},
		"some":    {"more"},
		"more":    {},
	}
	for a, l := range want {
		for b := range all {
			if _, is := ok[two{a, b}]; is != (a == b || slices.Contains(l, b)) {
				t.Error(a, b, is)
			}
		}
	}
	for _, x := range []struct {
		a, b string
		want api.Errno
	}{
		{"in-i", "none", api.ErrName}, {"none", "out-i", api.ErrName}, {"all-in", "in-i-j", api.ErrName}, {"more", "some", api.ErrName},
		{"all-out", "other-f", api.ErrType}, {"other-f", "all-out", api.ErrName}, // k comes first
		{"out-i-j", "out-j", api.ErrType}, {"out-j", "out-i-j", api.ErrName}, // the r that j has is exported in the one, imported in the other one
		{"both", "out-i", api.ErrName}, {"out-i", "both", api.ErrName}, {"both", "both", api.OK},
	} {
		fits(t, all[x.a], all[x.b], x.want)
	}
}

func TestWorldsLink(t *testing.T) {
	all := contracts(t)
	for _, x := range []struct {
		a, b string
		want api.Errno
	}{
		{"none", "none", api.OK}, {"none", "all-out", api.OK}, {"all-out", "none", api.OK},
		{"in-i", "out-i", api.OK}, {"in-i", "in-i", api.ErrName}, {"in-i", "none", api.ErrName}, {"in-i", "all-out", api.OK}, {"in-i", "both", api.OK}, {"both", "all-out", api.OK}, {"both", "both", api.OK}, {"both", "out-i", api.ErrName},
		{"in-j", "out-i-j", api.OK}, {"in-j", "out-j-i", api.OK}, {"in-j", "out-j", api.ErrType}, {"in-j", "out-i", api.ErrName},
		{"in-i-j", "out-j-i", api.OK}, {"in-j-i", "out-i-j", api.OK}, {"all-in", "all-out", api.OK}, {"all-in", "out-i-j", api.ErrName},
		{"in-k", "out-k", api.OK}, {"some", "other-f", api.ErrType}, {"some", "none", api.ErrName},
	} {
		links(t, all[x.a], all[x.b], x.want)
	}
	for a := range all {
		for b := range all {
			links(t, all[a], all[b], plainLinks(all[a], all[b]))
		}
	}
}

// A package's version is a part of names: what another one exports is not it.
func TestVersions(t *testing.T) {
	of := func(version, world string) api.Contract {
		p, _, e := wit.Parse("package a:b" + version + "; interface i { resource r; f: func(x: r); } world in { import i; } world out { export i; }")
		if e != api.OK {
			t.Fatal(e)
		}
		c, e := resolve.World([]api.Package{p}, 0, world)
		if e != api.OK {
			t.Fatal(e)
		}
		return c
	}
	for _, x := range []string{"", "@1.0.0", "@1.0.1"} {
		for _, y := range []string{"", "@1.0.0", "@1.0.1"} {
			want := api.ErrName
			if x == y {
				want = api.OK
			}
			links(t, of(x, "in"), of(y, "out"), want)
			fits(t, of(x, "in"), of(y, "in"), want)
			fits(t, of(x, "out"), of(y, "out"), want)
		}
	}
}
