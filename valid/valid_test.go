package valid

import (
	"math"
	"reflect"
	"slices"
	"testing"

	"scarf/api"
	"scarf/module"
)

// far are indices that never name anything.
func far(many int) []int {
	return []int{-1, -2, math.MinInt, many, many + 1, 1 << 31, 1<<32 - 1, 1 << 32, math.MaxInt}
}

// ofs asks that Of tells what the chapter's words do.
func ofs(t *testing.T, m api.Module) Space {
	t.Helper()
	s, p := Of(m), plainSpace(m)
	if !slices.EqualFunc(s.Types, m.Types, sameType) || !slices.Equal(s.Funcs, p.funcs) || !slices.Equal(s.Tables, p.tables) || !slices.Equal(s.Mems, p.mems) || !slices.EqualFunc(s.Globals, p.globals, func(a, b api.Global) bool { return reflect.DeepEqual(a, b) }) || s.Outer != p.outer {
		t.Errorf("Of(%+v): %+v", m, s)
	}
	return s
}

func sameType(a, b api.FuncType) bool { return slices.Equal(a.P, b.P) && slices.Equal(a.R, b.R) }

// 7.1: Of with nothing, with nothing imported, and with all things.
func TestOf(t *testing.T) {
	if s := ofs(t, api.Module{}); len(s.Types)+len(s.Funcs)+len(s.Tables)+len(s.Mems)+len(s.Globals)+s.Outer != 0 {
		t.Error(s)
	}
	own := api.Module{
		Types: []api.FuncType{functype("i>l"), {}}, Funcs: []int{1, 0, 7}, Tables: []api.Limits{{Min: 1, Max: 2}, {Min: 3, Max: -1}}, Mems: []api.Limits{{Min: 4, Max: 5}},
		Globals: []api.Global{{T: api.I32, Mut: true, Init: c32}, {T: api.FuncRef, Init: null}}, Codes: make([]api.Code, 3),
	}
	s := ofs(t, own)
	if s.Outer != 0 || !slices.Equal(s.Funcs, []int{1, 0, 7}) || s.Tables[1].Min != 3 || s.Mems[0].Max != 5 || s.Globals[0].Init.A != 7 || !s.Globals[0].Mut || s.Globals[1].T != api.FuncRef || len(s.Types) != 2 || s.Types[0].R[0] != api.I64 {
		t.Error(s)
	}
	s = ofs(t, whole())
	if s.Outer != 4 || !slices.Equal(s.Funcs, []int{1, 3, 0, 2, 4, 5}) || len(s.Tables) != 2 || s.Tables[0].Min != 3 || s.Tables[1].Min != 10 || len(s.Mems) != 3 || s.Mems[0].Max != 3 || s.Mems[1].Min != 2 || len(s.Globals) != 9 || s.Globals[1].T != api.I64 || !s.Globals[1].Mut || s.Globals[2].T != api.FuncRef || s.Globals[4].Init.A != 7 {
		t.Error(s)
	}
}

// 7.1: Of with imports of each kind, and of none, in all orders; what an import has beside its kind is not told.
func TestOfOrders(t *testing.T) {
	lim := api.Limits{Min: 1, Max: 9}
	all := []api.Import{
		{Mod: "a", Name: "b", Kind: api.KindFunc, T: 5, Mut: true, Lim: lim}, {Kind: api.KindTable, T: 6, Mut: true, Lim: lim}, {Kind: api.KindMem, T: 7, Lim: api.Limits{Min: 2, Max: -1}}, {Kind: api.KindGlobal, T: api.I64, Mut: true, Lim: lim},
		{Kind: api.KindGlobal, T: api.I32}, {Kind: 4, T: 8, Lim: lim}, {Kind: -1, T: 9, Lim: lim}, {Kind: api.KindFunc, T: -3}, {Kind: math.MaxInt}, {Kind: math.MinInt}, {Kind: 256}, {Kind: 1 << 32},
	}
	own := api.Module{Funcs: []int{1}, Tables: []api.Limits{{Min: 8, Max: 8}}, Mems: []api.Limits{{Min: 3, Max: 3}}, Globals: []api.Global{{T: api.FuncRef, Init: null}}}
	for i := range all {
		for j := range all {
			for k := range all {
				m := own
				m.Imports = []api.Import{all[i], all[j], all[k]}
				ofs(t, m)
			}
		}
	}
	for i := range all {
		m := own
		m.Imports = slices.Concat(all[i:], all[:i])
		s := ofs(t, m)
		if len(s.Funcs) != 3 || len(s.Tables) != 2 || len(s.Mems) != 2 || len(s.Globals) != 3 || s.Outer != 2 || s.Funcs[2] != 1 || s.Tables[0] != lim || s.Mems[0].Min != 2 || s.Globals[2].T != api.FuncRef {
			t.Error(i, s)
		}
	}
}

// R4: what Of and Type answer is the asker's own.
func TestOwn(t *testing.T) {
	m := whole()
	s := Of(m)
	f, _ := s.Type(1)
	clear(f.P)
	clear(f.R)
	_, _ = append(f.P, 9), append(f.R, 9)
	if f, _ := s.Type(1); !sameType(f, functype("ilr>rli")) {
		t.Error(f)
	}
	for i := range s.Types {
		clear(s.Types[i].P)
		clear(s.Types[i].R)
	}
	clear(s.Types)
	clear(s.Funcs)
	clear(s.Tables)
	clear(s.Mems)
	clear(s.Globals)
	_, _ = append(s.Funcs, 9), append(s.Tables, api.Limits{Min: 9})
	if !reflect.DeepEqual(m, whole()) {
		t.Error(m)
	}
	ofs(t, m)
	// What lies behind a list's length stays.
	long := append(slices.Clone(m.Types), functype("i>"))
	funcs := append(slices.Clone(m.Funcs), 77)
	m.Types, m.Funcs = long[:6], funcs[:4]
	Of(m)
	Check(m)
	if len(long[6].P) != 1 || funcs[4] != 77 {
		t.Error(long, funcs)
	}
	m = whole()
	for range 2 {
		checks(t, m, api.OK)
	}
	if !reflect.DeepEqual(m, whole()) {
		t.Error(m)
	}
}

// 7.1: Type of indices below 0, at the last one, beyond, and of functions whose type is none.
func TestType(t *testing.T) {
	m := whole()
	s := Of(m)
	for i, sig := range []string{"i>i", "ilr>rli", ">", "l>r", ">lr", "rr>"} {
		if f, ok := s.Type(i); !ok || !sameType(f, functype(sig)) {
			t.Error(i, f, ok)
		}
	}
	for _, i := range far(6) {
		if f, ok := s.Type(i); ok || f.P != nil || f.R != nil {
			t.Error(i, f, ok)
		}
		if f, ok := (Space{}).Type(i); ok || f.P != nil || f.R != nil {
			t.Error(i, f, ok)
		}
		if f, ok := Of(api.Module{Types: m.Types}).Type(i % 6); ok || f.P != nil || f.R != nil {
			t.Error(i, f, ok)
		}
		// The type of a function may be none, whether it is imported or not.
		own := Of(api.Module{Types: m.Types, Imports: []api.Import{{Kind: api.KindFunc, T: 3}}, Funcs: []int{i, 5}})
		outer := Of(api.Module{Types: m.Types, Imports: []api.Import{{Kind: api.KindFunc, T: 3}, {Kind: api.KindFunc, T: i}}, Funcs: []int{5}})
		for _, s := range []Space{own, outer} {
			if f, ok := s.Type(1); ok || f.P != nil || f.R != nil {
				t.Error(i, f, ok)
			}
			if f, ok := s.Type(0); !ok || !sameType(f, functype("ilr>rli")) {
				t.Error(i, f, ok)
			}
			if f, ok := s.Type(2); !ok || !sameType(f, functype("rr>")) {
				t.Error(i, f, ok)
			}
		}
		if f, ok := (Space{Funcs: []int{i}, Types: m.Types}).Type(0); ok || f.P != nil || f.R != nil {
			t.Error(i, f, ok)
		}
	}
	if f, ok := (Space{Funcs: []int{0}}).Type(0); ok || f.P != nil || f.R != nil {
		t.Error(f, ok)
	}
	if f, ok := (Space{Funcs: []int{0}, Types: []api.FuncType{{}}}).Type(0); !ok || len(f.P)+len(f.R) != 0 {
		t.Error(f, ok)
	}
}

// 7.1: Table with each Min and Max at and beside the edges.
func TestTable(t *testing.T) {
	for _, x := range []struct {
		min, max int
		e        api.Errno
	}{
		{0, -1, api.OK}, {0, 0, api.OK}, {0, 1024, api.OK}, {1024, -1, api.OK}, {1024, 1024, api.OK}, {5, 5, api.OK}, {5, 6, api.OK}, {1, 1023, api.OK},
		{-1, -1, api.ErrLimit}, {-1, 0, api.ErrLimit}, {1025, -1, api.ErrLimit}, {1025, 1025, api.ErrLimit}, {0, 1025, api.ErrLimit}, {5, 4, api.ErrLimit}, {1, 0, api.ErrLimit}, {1024, 1023, api.ErrLimit}, {0, -2, api.ErrLimit}, {-2, -1, api.ErrLimit}, {-3, -2, api.ErrLimit}, {0, math.MinInt, api.ErrLimit}, {0, math.MaxInt, api.ErrLimit}, {math.MinInt, -1, api.ErrLimit}, {math.MaxInt, -1, api.ErrLimit}, {17, 1 << 32, api.ErrLimit}, {1 << 32, -1, api.ErrLimit},
	} {
		if e := Table(api.Limits{Min: x.min, Max: x.max}); e != x.e {
			t.Errorf("Table(%d %d): %d, want %d", x.min, x.max, e, x.e)
		}
	}
	edges := []int{math.MinInt, -1025, -2, -1, 0, 1, 2, 15, 16, 17, 1022, 1023, 1024, 1025, 1026, 1 << 32, 1<<32 + 5, math.MaxInt}
	for _, least := range edges {
		for _, most := range edges {
			may := least >= 0 && least <= 1024 && (most == -1 || most >= least && most <= 1024)
			if e := Table(api.Limits{Min: least, Max: most}); (e == api.OK) != may || e != api.OK && e != api.ErrLimit {
				t.Errorf("Table(%d %d): %d", least, most, e)
			}
		}
	}
}

// 7.2: the module without anything, and one with all things, may be run; nil and empty lists are the same.
func TestCheckWhole(t *testing.T) {
	checks(t, api.Module{}, api.OK)
	checks(t, whole(), api.OK)
	checks(t, api.Module{Types: []api.FuncType{}, Imports: []api.Import{}, Funcs: []int{}, Tables: []api.Limits{}, Mems: []api.Limits{}, Globals: []api.Global{}, Exports: []api.Export{}, Elems: []api.Elem{}, Codes: []api.Code{}, Datas: []api.Data{}}, api.OK)
	checks(t, api.Module{Types: []api.FuncType{{P: []int{}, R: []int{}}}, Funcs: []int{0}, Codes: []api.Code{{Locals: []int{}, L: []api.Instr{{Op: 1, N: []int{}, L: []api.Instr{}, E: []api.Instr{}}}}}}, api.OK)
}

// T1: a module that is laid as bytes, and read again, is judged as before.
func TestCheckRead(t *testing.T) {
	s, _ := module.Put(whole())
	m, e := module.Take(s)
	if e != api.OK {
		t.Fatal(e)
	}
	checks(t, m, api.OK)
}
