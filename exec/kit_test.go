package exec

import (
	"fmt"
	"slices"
	"strings"
	"testing"

	"scarf/api"
	"scarf/valid"
)

// In these tests types are letters: i is I32, l is I64, r is FuncRef.

// letters are types as letters.
func letters(types []int) string {
	s := ""
	for _, t := range types {
		s += string(map[int]rune{0x7F: 'i', 0x7E: 'l', 0x70: 'r'}[t])
	}
	return s
}

// types are letters as types.
func types(s string) []int {
	var l []int
	for _, c := range s {
		l = append(l, map[rune]int{'i': 0x7F, 'l': 0x7E, 'r': 0x70}[c])
	}
	return l
}

// functype is of what is taken and what is left, with a > between.
func functype(s string) api.FuncType {
	taken, left, _ := strings.Cut(s, ">")
	return api.FuncType{P: types(taken), R: types(left)}
}

// sig is a function's type as letters.
func sig(t api.FuncType) string { return letters(t.P) + ">" + letters(t.R) }

// op is an instruction with its A, M and B.
func op(o int, n ...int) api.Instr {
	n = append(n, 0, 0, 0)
	return api.Instr{Op: o, A: n[0], M: n[1], B: n[2]}
}

// code is instructions.
func code(l ...api.Instr) []api.Instr { return l }

// with is a block with what stands within it.
func with(o, a int, l ...api.Instr) api.Instr { return api.Instr{Op: o, A: a, L: l} }

// either is an If with an Else.
func either(a int, l, e []api.Instr) api.Instr { return api.Instr{Op: 0x04, A: a, L: l, E: e} }

// labels is a BrTable, the last label first.
func labels(a int, n ...int) api.Instr { return api.Instr{Op: 0x0E, A: a, N: n} }

// i32, i64 are constants, get is of a local.
func i32(n int) api.Instr { return op(0x41, n) }
func i64(n int) api.Instr { return op(0x42, n) }
func get(n int) api.Instr { return op(0x20, n) }

var null = op(0xD0)

// none is a block's type.
const none = -64

// lim are limits.
func lim(min, max int) api.Limits { return api.Limits{Min: min, Max: max} }

// part is a function of a module under way: its type, its locals beside its arguments, its code.
type part struct {
	sig, locals string
	l           []api.Instr
}

// fun is a function without locals of its own.
func fun(sig string, l ...api.Instr) part { return part{sig: sig, l: l} }

// module is one of functions, whose types are the first ones; each is exported as f0, f1 and so on.
func module(parts ...part) api.Module {
	m := api.Module{}
	for i, p := range parts {
		m.Types = append(m.Types, functype(p.sig))
		m.Funcs = append(m.Funcs, i)
		m.Codes = append(m.Codes, api.Code{Locals: types(p.locals), L: p.l})
		m.Exports = append(m.Exports, api.Export{Name: fmt.Sprint("f", i), I: i})
	}
	return m
}

// sigs adds types to a module.
func sigs(m api.Module, more ...string) api.Module {
	for _, s := range more {
		m.Types = append(slices.Clone(m.Types), functype(s))
	}
	return m
}

// f, tab, memo, glob are externs.
func f(n int) api.Extern    { return api.Extern{Kind: 0, Addr: n} }
func tab(n int) api.Extern  { return api.Extern{Kind: 1, Addr: n} }
func memo(n int) api.Extern { return api.Extern{Kind: 2, Addr: n} }
func glob(n int) api.Extern { return api.Extern{Kind: 3, Addr: n} }

// added adds a module, which may be run, and is filled without a trap; its number is told.
func added(t *testing.T, s *Store, m api.Module, imports ...api.Extern) int {
	t.Helper()
	n, e, trap := s.Add(m, imports...)
	if e != api.OK || trap != api.NoTrap {
		t.Fatalf("Add: %d %d %d (valid.Check: %d)", n, e, trap, valid.Check(m))
	}
	return n
}

// refused asks that a module is not added, and that nothing is changed.
func refused(t *testing.T, s *Store, want api.Errno, m api.Module, imports ...api.Extern) {
	t.Helper()
	was := count(s)
	n, e, trap := s.Add(m, imports...)
	if n != 0 || e != want || trap != api.NoTrap {
		t.Errorf("Add of %v: %d %d %d, want %d", imports, n, e, trap, want)
	}
	if is := count(s); is != was {
		t.Errorf("Add of %v: %v, was %v", imports, is, was)
	}
}

// count tells how many functions, tables, memories, globals and instances there are, by asking for them.
func count(s *Store) [5]int {
	var n [5]int
	for ok := true; ok; n[0]++ {
		_, ok = s.Type(f(n[0]))
	}
	for ok := true; ok; n[1]++ {
		_, ok = s.Table(tab(n[1]))
	}
	for ok := true; ok; n[2]++ {
		ok = s.Mem(memo(n[2])) != nil
	}
	for ok := true; ok; n[3]++ {
		_, ok = s.Global(glob(n[3]))
	}
	n[4] = len(s.all().insts)
	return [5]int{n[0] - 1, n[1] - 1, n[2] - 1, n[3] - 1, n[4]}
}

// host makes a function of the host's.
func host(t *testing.T, s *Store, sig string, tag int) api.Extern {
	t.Helper()
	x, e := s.Host(functype(sig), tag)
	if e != api.OK {
		t.Fatalf("Host %s: %d", sig, e)
	}
	return x
}

// done, stopped and asking are what a run tells.
func done(fuel int, vals ...int) api.Status {
	return api.Status{Kind: 1, Vals: vals, Fuel: fuel}
}
func stopped(fuel int, trap api.Trap) api.Status {
	return api.Status{Kind: 2, Trap: trap, Fuel: fuel}
}
func asking(fuel, tag int, vals ...int) api.Status {
	return api.Status{Kind: 3, Tag: tag, Vals: vals, Fuel: fuel}
}

// alikeStatus tells whether two are the same.
func alikeStatus(a, b api.Status) bool {
	return a.Kind == b.Kind && a.Trap == b.Trap && a.Tag == b.Tag && a.Fuel == b.Fuel && slices.Equal(a.Vals, b.Vals)
}

// stands asks how a run stands.
func stands(t *testing.T, r *Run, want api.Status) {
	t.Helper()
	if got := r.Status(); !alikeStatus(got, want) {
		t.Errorf("%+v, want %+v", got, want)
	}
}

// called calls a function, which may be called.
func called(t *testing.T, s *Store, x api.Extern, fuel int, args ...int) *Run {
	t.Helper()
	r, e := s.Call(x, args, fuel)
	if e != api.OK || r == nil {
		t.Fatalf("Call of %v with %v: %v %d", x, args, r, e)
	}
	return r
}

// calls calls a function, and asks how the run stands.
func calls(t *testing.T, s *Store, x api.Extern, fuel int, want api.Status, args ...int) *Run {
	t.Helper()
	r := called(t, s, x, fuel, args...)
	if got := r.Status(); !alikeStatus(got, want) {
		t.Errorf("Call of %v with %v, %d: %+v, want %+v", x, args, fuel, got, want)
	}
	return r
}

// says asks which error there is.
func says(t *testing.T, e, want api.Errno) {
	t.Helper()
	if e != want {
		t.Errorf("%d, want %d", e, want)
	}
}
