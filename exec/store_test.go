package exec

import (
	"math"
	"slices"
	"strings"
	"testing"

	"scarf/api"
	"scarf/mem"
)

// 9.1: a store in which there is nothing.
func TestNew(t *testing.T) {
	for _, s := range []*Store{New(), {}} {
		if n := count(s); n != [5]int{} {
			t.Error(n)
		}
		if x := host(t, s, ">", 1); x != f(0) {
			t.Error(x)
		}
		if n := added(t, s, api.Module{}); n != 0 {
			t.Error(n)
		}
	}
	if a, b := New(), New(); a == b || a == nil {
		t.Error("one store twice")
	}
}

// 9.1: Host.
func TestHost(t *testing.T) {
	s := New()
	for i, x := range []string{">", "i>", ">l", "r>r", "ilr>rli", strings.Repeat("i", 32) + ">", ">" + strings.Repeat("l", 32), strings.Repeat("r", 32) + ">" + strings.Repeat("i", 32)} {
		if got := host(t, s, x, -i); got != f(i) {
			t.Errorf("%s: %v", x, got)
		}
		if got, ok := s.Type(f(i)); !ok || sig(got) != x {
			t.Errorf("%s: %v %v", x, got, ok)
		}
	}
	was := count(s)
	long := func(n int) []int { return types(strings.Repeat("i", n)) }
	for _, x := range []api.FuncType{
		{P: long(33)}, {R: long(33)}, {P: long(32), R: long(33)}, {P: long(33), R: long(32)}, {P: long(1000)},
		{P: []int{0}}, {R: []int{0}}, {P: []int{0x7D}}, {R: []int{0x7C}}, {P: []int{0x7B}}, {P: []int{0x6F}}, {R: []int{-1}}, {P: []int{0x7F, 0x40}}, {R: []int{0x7E, 0x7D, 0x70}},
		{P: []int{0x7F + 256}}, {R: []int{0x7F - 256}}, {P: []int{0x7F + 1<<32}}, {P: []int{math.MinInt}}, {R: []int{math.MaxInt}}, {P: append(long(31), 0x7A)}, {R: append(long(31), 0x7A)},
	} {
		if got, e := s.Host(x, 0); got != f(0) || e != api.ErrArg {
			t.Errorf("%v: %v %d", x, got, e)
		}
	}
	if is := count(s); is != was {
		t.Errorf("%v, was %v", is, was)
	}
}

// 9.3: what is asked for, where there is all of it.
func TestAsked(t *testing.T) {
	s := New()
	host(t, s, "l>", 7)
	m := module(fun("i>i", get(0)), fun(">"))
	m.Tables, m.Mems = []api.Limits{lim(2, -1), lim(0, 0)}, []api.Limits{lim(1, 2)}
	m.Globals = []api.Global{{T: 0x7F, Init: i32(-1)}, {T: 0x7E, Mut: true, Init: i64(-1)}, {T: 0x70, Init: op(0xD2, 1)}}
	m.Exports = []api.Export{{Name: "a", I: 1}, {Name: "b", I: 0}, {Name: "", Kind: 3, I: 2}, {Name: "t", Kind: 1, I: 1}, {Name: "m", Kind: 2}, {Name: "c", I: 1}}
	m.Start = 2
	m.Elems = []api.Elem{{Off: i32(1), F: []int{0}}}
	added(t, s, module(fun("r>")))
	n := added(t, s, m)
	if n != 1 {
		t.Fatal(n)
	}
	for name, want := range map[string]api.Extern{"a": f(3), "b": f(2), "": glob(2), "t": tab(1), "m": memo(0), "c": f(3)} {
		if x, ok := s.Export(n, name); x != want || !ok {
			t.Errorf("%q: %v %v", name, x, ok)
		}
	}
	if x, ok := s.Start(n); x != f(3) || !ok {
		t.Error(x, ok)
	}
	for i, want := range []string{"l>", "r>", "i>i", ">"} {
		if x, ok := s.Type(f(i)); sig(x) != want || !ok {
			t.Error(i, x, ok)
		}
	}
	for i, want := range []int{1<<32 - 1, -1, 4} {
		if x, ok := s.Global(glob(i)); x != want || !ok {
			t.Error(i, x, ok)
		}
	}
	for i, want := range [][]int{{0, 3}, {}} {
		if x, ok := s.Table(tab(i)); !slices.Equal(x, want) || !ok {
			t.Error(i, x, ok)
		}
	}
	if b := s.Mem(memo(0)); b == nil || b.Pages() != 1 || b.Most() != 2 || b != s.Mem(memo(0)) {
		t.Error(b)
	}
}

// 9.3: what there is not.
func TestNotThere(t *testing.T) {
	s := New()
	m := module(fun(">"), fun("i>"))
	m.Tables, m.Mems, m.Globals = []api.Limits{lim(1, 1)}, []api.Limits{lim(1, 1)}, []api.Global{{T: 0x7F, Init: i32(5)}}
	added(t, s, m)
	for _, n := range []int{-1, 1, 2, math.MaxInt, math.MinInt, 1 << 32} {
		if x, ok := s.Export(n, "f0"); x != (api.Extern{}) || ok {
			t.Error(n, x, ok)
		}
		if x, ok := s.Start(n); x != (api.Extern{}) || ok {
			t.Error(n, x, ok)
		}
	}
	for _, name := range []string{"", "f", "f2", "f00", "F0", "f0 "} {
		if x, ok := s.Export(0, name); x != (api.Extern{}) || ok {
			t.Error(name, x, ok)
		}
	}
	if x, ok := s.Start(0); x != (api.Extern{}) || ok {
		t.Error(x, ok)
	}
	many := []int{2, 1, 1, 1}
	for kind := -1; kind < 6; kind++ {
		for _, addr := range []int{-1, 0, 1, 2, 3, math.MaxInt, math.MinInt, 1 << 32} {
			there := kind >= 0 && kind < 4 && addr >= 0 && addr < many[kind]
			has(t, s, api.Extern{Kind: kind, Addr: addr}, there)
		}
	}
	for _, x := range []api.Extern{{Kind: 1 << 32}, {Kind: math.MinInt}, {Kind: math.MaxInt}, {Kind: 256}} {
		has(t, s, x, false)
	}
}

// has asks for an extern in all ways: just one of these tells something, if it is there.
func has(t *testing.T, s *Store, x api.Extern, there bool) {
	t.Helper()
	is := func(kind int) bool { return there && x.Kind == kind }
	if got, ok := s.Type(x); ok != is(0) || !ok && (got.P != nil || got.R != nil) {
		t.Error(x, got, ok)
	}
	if got, ok := s.Table(x); ok != is(1) || !ok && got != nil {
		t.Error(x, got, ok)
	}
	if got := s.Mem(x); (got != nil) != is(2) {
		t.Error(x, got)
	}
	if got, ok := s.Global(x); ok != is(3) || !ok && got != 0 {
		t.Error(x, got, ok)
	}
}

// 9.1 to 9.5: a nil store, and a nil run.
func TestNil(t *testing.T) {
	var s *Store
	if x, e := s.Host(api.FuncType{}, 1); x != f(0) || e != api.ErrArg {
		t.Error(x, e)
	}
	for _, m := range []api.Module{{}, {Start: 1}, module(fun(">"))} {
		if n, e, trap := s.Add(m); n != 0 || e != api.ErrArg || trap != api.NoTrap {
			t.Error(n, e, trap)
		}
		if n, e, trap := s.Add(m, f(0)); n != 0 || e != api.ErrArg || trap != api.NoTrap {
			t.Error(n, e, trap)
		}
	}
	for kind := -1; kind < 5; kind++ {
		for addr := -1; addr < 2; addr++ {
			has(t, s, api.Extern{Kind: kind, Addr: addr}, false)
			if r, e := s.Call(api.Extern{Kind: kind, Addr: addr}, nil, 1); r != nil || e != api.ErrArg {
				t.Error(r, e)
			}
		}
	}
	for n := -1; n < 2; n++ {
		if x, ok := s.Export(n, ""); x != f(0) || ok {
			t.Error(x, ok)
		}
		if x, ok := s.Start(n); x != f(0) || ok {
			t.Error(x, ok)
		}
	}
	for _, r := range []*Run{nil, {}} {
		stands(t, r, api.Status{})
		says(t, r.Answer(), api.ErrState)
		says(t, r.Answer(1, 2), api.ErrState)
		says(t, r.Fail(api.TrapHost), api.ErrState)
		says(t, r.Fail(0), api.ErrState)
		says(t, r.Burn(0), api.ErrState)
		says(t, r.Burn(-1), api.ErrState)
		stands(t, r, api.Status{})
	}
}

// R4: what is handed in is not changed, nor kept; what is told is the asker's own, but for a memory.
func TestOwn(t *testing.T) {
	s := New()
	given := functype("il>r")
	x, _ := s.Host(given, 1)
	given.P[0], given.R[0] = 0x70, 0x7E
	got, _ := s.Type(x)
	if sig(got) != "il>r" {
		t.Error(got)
	}
	got.P[1], got.R[0] = 0, 0
	if again, _ := s.Type(x); sig(again) != "il>r" {
		t.Error(again)
	}
	m := module(part{"i>i", "r", code(get(0))})
	m.Tables, m.Mems = []api.Limits{lim(3, -1)}, []api.Limits{lim(1, 1)}
	m.Elems = []api.Elem{{Off: i32(0), F: []int{0, 0}}}
	n := added(t, s, m)
	places, _ := s.Table(tab(0))
	if !slices.Equal(places, []int{2, 2, 0}) {
		t.Error(places)
	}
	places[0], places[2] = 9, 9
	if again, _ := s.Table(tab(0)); !slices.Equal(again, []int{2, 2, 0}) {
		t.Error(again)
	}
	b := s.Mem(memo(0))
	b.Write(3, "abc")
	if text, trap := s.Mem(memo(0)).Read(2, 5); text != "\x00abc\x00" || trap != api.NoTrap {
		t.Errorf("%q", text)
	}
	args := []int{5}
	r := called(t, s, f(1), 1, args...)
	if args[0] != 5 {
		t.Error(args)
	}
	st := r.Status()
	st.Vals[0] = 6
	stands(t, r, done(0, 5))
	got, _ = s.Type(f(1))
	got.P[0] = 0x7E
	calls(t, s, f(1), 1, done(0, 8), 8)
	if x, ok := s.Export(n, "f0"); x != f(1) || !ok {
		t.Error(x, ok)
	}
	h := called(t, s, x, 1, 5, 6)
	st = h.Status()
	st.Vals[0] = 77
	stands(t, h, asking(0, 1, 5, 6))
	vals := []int{1}
	says(t, h.Answer(vals...), api.OK)
	vals[0] = 2
	stands(t, h, done(0, 1))
}

// R4: what lies behind a list's length is neither read nor written.
func TestBehind(t *testing.T) {
	s := New()
	room := []int{7, 8, 9}
	calls(t, s, host(t, s, "i>i", 0), 1, asking(0, 0, 7), room[:1]...)
	p := part{"i>i", "iii", code(i32(1), i32(2), op(0x6A), op(0x21, 3), get(0), get(3), op(0x6A))}
	added(t, s, module(p))
	calls(t, s, f(1), 1, done(0, 10), room[:1]...)
	if !slices.Equal(room, []int{7, 8, 9}) {
		t.Error(room)
	}
	xs := []api.Extern{f(0), f(1), f(5)}
	m := api.Module{Types: []api.FuncType{functype("i>i")}, Imports: []api.Import{{}, {}}}
	added(t, s, m, xs[:2]...)
	if !slices.Equal(xs, []api.Extern{f(0), f(1), f(5)}) {
		t.Error(xs)
	}
}

// 9.3: Mem is of the store alone: it is nil where there is none, not one without bytes.
func TestMemNil(t *testing.T) {
	var want *mem.Mem
	if got := New().Mem(memo(0)); got != want {
		t.Error(got)
	}
}
