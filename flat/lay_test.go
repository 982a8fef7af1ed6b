package flat

import (
	"math"
	"reflect"
	"slices"
	"strings"
	"testing"

	"scarf/api"
	"scarf/instr"
	"scarf/mem"
	"scarf/valid"
)

// whole is a module with each kind of thing, imported and its own; what it imports stands between.
func whole() api.Module {
	return api.Module{
		Types: []api.FuncType{functype(">"), functype("i>i"), functype("l>r"), functype("ilr>rli"), functype(">lr"), functype("rr>")},
		Imports: []api.Import{
			{Mod: "m", Name: "g", Kind: 3, T: 0x7F}, {Mod: "m", Name: "f", Kind: 0, T: 1}, {Mod: "m", Name: "t", Kind: 1, Lim: api.Limits{Min: 3, Max: -1}}, {Mod: "m", Name: "h", Kind: 3, T: 0x7E, Mut: true},
			{Mod: "m", Name: "m", Kind: 2, Lim: api.Limits{Min: 1, Max: 3}}, {Mod: "m", Name: "k", Kind: 0, T: 3}, {Mod: "m", Name: "r", Kind: 3, T: 0x70},
		},
		Funcs:   []int{0, 2, 4, 5},
		Tables:  []api.Limits{{Min: 10, Max: 200}},
		Mems:    []api.Limits{{Min: 2, Max: -1}, {Min: 0, Max: 0}},
		Globals: []api.Global{{T: 0x7F, Mut: true, Init: c32}, {T: 0x70, Mut: true, Init: null}},
		Codes: []api.Code{
			{Locals: []int{0x7E}, L: code(op(instr.LocalGet), op(instr.Drop))},
			{L: code(op(instr.LocalGet), op(0xA7), op(instr.TableGet, 0, 0, 1))},
			{L: code(c64, null)},
			{L: code(with(instr.Loop, api.BlockNone, op(instr.LocalGet, 1), op(instr.RefIsNull), op(instr.BrIf)))},
		},
	}
}

// plus is a module with one more function.
func plus(m api.Module, sig string, l []api.Instr, locals ...int) api.Module {
	m.Funcs = append(slices.Clone(m.Funcs), len(m.Types))
	m.Types = append(slices.Clone(m.Types), functype(sig))
	m.Codes = append(slices.Clone(m.Codes), api.Code{Locals: locals, L: l})
	return m
}

// wholes are what the functions of whole are laid out as.
var wholes = []string{"20 1a end", "20 a7 25(0 1) end", "42(8) d0 end", "20(1) d1 if{0 0 0 back} end"}

// refuses asks that Lay answers an error, and nothing else.
func refuses(t *testing.T, m api.Module, f int, want api.Errno) {
	t.Helper()
	if l, e := Lay(m, f); len(l) > 0 || e != want {
		t.Errorf("Lay of %d: %v %d, want %d", f, l, e, want)
	}
}

// 8.1: the number of a function, of a module with imported ones, and without.
func TestLay(t *testing.T) {
	numbers := []int{-1, -2, math.MinInt, math.MaxInt, 1 << 32, -1 << 32}
	for _, n := range append(numbers, 4, 5, 6) {
		refuses(t, whole(), n, api.ErrIndex)
	}
	for f, want := range wholes {
		lays(t, whole(), f, want)
	}
	m := function(">", nil)
	lays(t, m, 0, "end")
	for _, n := range append(numbers, 1) {
		refuses(t, m, n, api.ErrIndex)
		refuses(t, api.Module{}, n, api.ErrIndex)
	}
	refuses(t, api.Module{}, 0, api.ErrIndex)
	m = whole()
	m.Funcs, m.Codes = nil, nil
	for n := range 3 {
		refuses(t, m, n, api.ErrIndex)
	}
	for n := range 5 {
		m = plus(m, ">i", code(op(instr.I32Const, n)))
		lays(t, m, n, show([]api.Flat{{Op: 0x41, A: n}, {Op: 0x104}}))
		refuses(t, m, n+1, api.ErrIndex)
	}
}

// unfit are modules that may not be run, each with as many functions as whole.
func unfit() []api.Module {
	l := []api.Module{whole(), whole(), whole(), whole(), whole(), whole(), whole(), whole()}
	l[0].Codes[3].L = code(c32)                                                                  // types that do not fit
	l[1].Codes[0].L = code(op(instr.Br, 1))                                                      // a label of nothing
	l[2].Funcs[1] = 6                                                                            // a type that there is not
	l[3].Codes = l[3].Codes[:3]                                                                  // fewer codes than functions
	l[4].Codes = append(l[4].Codes, api.Code{})                                                  // more of them
	l[5].Start = 2                                                                               // one that takes something
	l[6].Codes[2].L = code(op(0x43))                                                             // a float
	l[7].Codes[0].L = append(code(op(instr.Unreachable)), op(instr.LocalGet, 9), op(instr.Drop)) // no such local, where nothing is laid out
	return l
}

// 8.1: a module that may not be run; a number of nothing is told ahead of that.
func TestUnfit(t *testing.T) {
	for i, m := range unfit() {
		if valid.Check(m) == api.OK {
			t.Error(i)
		}
		for f := range 4 {
			refuses(t, m, f, api.ErrArg)
		}
		for _, f := range []int{-1, 4, 5, math.MinInt, math.MaxInt} {
			refuses(t, m, f, api.ErrIndex)
		}
		if all := All(m); len(all) != 0 {
			t.Error(i, all)
		}
	}
	deep := code(with(instr.Loop, none))
	deep[0].L = deep
	refuses(t, function(">", deep), 0, api.ErrArg)
	refuses(t, function(">", deep), 1, api.ErrIndex)
	if all := All(function(">", deep)); len(all) != 0 {
		t.Error(all)
	}
}

// 8.1: all functions of a module, in order.
func TestAll(t *testing.T) {
	for _, m := range []api.Module{{}, {Imports: whole().Imports, Types: whole().Types}} {
		if all := All(m); len(all) != 0 {
			t.Error(all)
		}
	}
	all := All(whole())
	if len(all) != len(wholes) {
		t.Fatal(all)
	}
	for f, l := range all {
		if show(l) != wholes[f] {
			t.Error(f, show(l))
		}
	}
	// A thousand functions, each of another number.
	m := api.Module{}
	for n := range 1000 {
		m = api.Module{Types: append(m.Types, functype(">i")), Funcs: append(m.Funcs, n), Codes: append(m.Codes, api.Code{L: code(op(instr.I32Const, n))})}
	}
	all = All(m)
	if len(all) != 1000 {
		t.Fatal(len(all))
	}
	for n, l := range all {
		if !reflect.DeepEqual(l, []api.Flat{{Op: 0x41, A: n}, {Op: 0x104}}) {
			t.Error(n, l)
		}
	}
	// More bytes than a module has: it may be run all the same.
	m = function(">", nil)
	for range 4 {
		m = plus(m, ">", slices.Repeat(code(op(instr.I64Const, math.MinInt), op(instr.Drop)), 1000))
	}
	if all := All(m); len(all) != 5 || len(all[4]) != 2001 {
		t.Error(len(all))
	}
}

// sample is an instruction that is no block and no jump, what it takes, and what it leaves.
type sample struct {
	in          api.Instr
	taken, left string
}

// samples are all instructions that are no blocks and no jumps, with numbers that name what whole has.
func samples() []sample {
	var l []sample
	for o, sig := range sigOf {
		taken, left, _ := strings.Cut(sig, ">")
		for n := range 3 {
			in := op(o)
			shape, _ := instr.Shape(o)
			switch shape {
			case instr.Place:
				bytes, _, _ := mem.Width(o)
				in.A, in.B, in.M = 100*n, min(n, bytes>>1), n
				if bytes == 8 || bytes == 4 {
					in.B = n
				}
			case instr.Space, instr.Spaces:
				in.M = n
				if n == 2 && o != instr.MemorySize && o != instr.MemoryGrow && o != instr.MemoryFill && o != instr.MemoryCopy {
					in.M = 0
				}
				if shape == instr.Spaces {
					in.A = 1 - in.M%2
				}
			case instr.Const:
				in.A = n - 1
			case instr.Index:
				in.A = 2 * n // RefFunc
			}
			l = append(l, sample{in, taken, left})
		}
	}
	for f, t := range funcs(whole()) {
		typ := whole().Types[t]
		l = append(l, sample{op(instr.Call, f), letters(typ.P), letters(typ.R)})
	}
	for i, typ := range whole().Types {
		l = append(l, sample{op(instr.CallIndirect, i, 0, i%2), letters(typ.P) + "i", letters(typ.R)})
	}
	for i, c := range []string{"i", "l", "r"} {
		l = append(l, sample{op(instr.Drop), c, ""}, sample{op(instr.SelectT, types(c)[0]), c + c + "i", c})
		if c != "r" {
			l = append(l, sample{op(instr.Select), c + c + "i", c})
		}
		l = append(l, sample{op(instr.LocalGet, i), "", c}, sample{op(instr.LocalSet, i), c, ""}, sample{op(instr.LocalTee, i), c, c})
	}
	for i, c := range []string{"i", "l", "r", "i", "r"} {
		l = append(l, sample{op(instr.GlobalGet, i), "", c})
		if i == 1 || i > 2 {
			l = append(l, sample{op(instr.GlobalSet, i), c, ""})
		}
	}
	return l
}

// 8.1: each instruction is laid out as it is, with its A and M alone, and what it takes and leaves is counted.
func TestInstructions(t *testing.T) {
	seen := map[int]bool{}
	for _, s := range samples() {
		seen[s.in.Op] = true
		for _, below := range []string{"", "r", "lir"} {
			l := append(consts(below+s.taken), s.in, with(instr.OpBlock, none, op(instr.Br)), op(instr.Unreachable))
			m := plus(whole(), ">", l, 0x7F, 0x7E, 0x70)
			got, e := Lay(m, 4)
			at := len(below) + len(s.taken)
			if e != api.OK || len(got) != at+4 {
				t.Errorf("%+v: %s %d", s, show(got), e)
				continue
			}
			if want := (api.Flat{Op: s.in.Op, A: s.in.A, M: s.in.M}); !reflect.DeepEqual(got[at], want) {
				t.Errorf("%+v: %+v", s.in, got[at])
			}
			if want := (api.Flat{Op: 0x100, J: []api.Jump{{To: at + 2, Base: len(below) + len(s.left)}}}); !reflect.DeepEqual(got[at+1], want) {
				t.Errorf("%+v: %s", s, show(got))
			}
			lays(t, m, 4, show(got))
		}
	}
	for o := range 0xFC20 {
		shape, _ := instr.Shape(o)
		blocks := slices.Contains([]int{instr.Unreachable, instr.Nop, instr.OpBlock, instr.Loop, instr.If, instr.Br, instr.BrIf, instr.BrTable, instr.Return}, o)
		if shape > 0 && !blocks && !seen[o] {
			t.Errorf("%x", o)
		}
	}
}

// 8.1: blocks within one another as often as may be, many instructions, a table of many labels.
func TestLimits(t *testing.T) {
	for deep := range 33 {
		for n := range deep + 1 {
			l := code(op(instr.Br, n))
			for range deep {
				l = slices.Concat(inBlock(l), behind)
			}
			// Behind the block of the label something goes on, and behind those around it.
			want := append([]string{"jump{1 0 0}"}, slices.Repeat([]string{"d0 1a"}, deep-n)...)
			rowsShallow(t, l, strings.Join(append(want, "end"), " "))
		}
	}
	l := slices.Repeat(code(c32, op(instr.Drop)), 4096)
	got, e := Lay(function(">", l), 0)
	if e != api.OK || len(got) != 8193 {
		t.Error(len(got), e)
	}
	labels := make([]int, 1000)
	for i := range labels {
		labels[i] = i % 4
	}
	l = code(c32, table(3, labels...))
	for range 3 {
		l = slices.Concat(inBlock(l), behind)
	}
	got, e = Lay(function(">", l), 0)
	if e != api.OK || len(got) != 9 || len(got[1].J) != 1001 {
		t.Fatal(show(got), e)
	}
	for i, j := range got[1].J {
		if want := []int{2, 4, 6, 8}[min(i%4+i/1000*3, 3)]; j != (api.Jump{To: want}) {
			t.Error(i, j)
		}
	}
}

// rowsShallow asks about code that lies too deep for the second layout.
func rowsShallow(t *testing.T, l []api.Instr, want string) {
	t.Helper()
	got, e := Lay(function(">", l), 0)
	if e != api.OK || show(got) != want {
		t.Errorf("%s %d, want %s", show(got), e, want)
	}
	sound(t, got, 0)
}

// R4: what is handed in is not changed, nor what lies behind a list's length; what is answered shares nothing with it, nor with another answer.
func TestShared(t *testing.T) {
	labels := []int{0, 55, 77, 78}
	l := code(with(instr.OpBlock, none, c32, api.Instr{Op: instr.BrTable, A: 1, N: labels[:1]}), c32, op(instr.BrIf))
	m := plus(function(">", l, ">"), ">", l)
	want := "41(7) table{2 0 0}{4 0 0} 41(7) if{4 0 0} end"
	lays(t, m, 0, want)
	if !slices.Equal(labels, []int{0, 55, 77, 78}) {
		t.Error(labels)
	}
	a, _ := Lay(m, 0)
	all := All(m)
	for i := range a {
		for j := range a[i].J {
			a[i].J[j] = api.Jump{To: 99}
		}
		for j := range all[0][i].J {
			all[0][i].J[j] = api.Jump{To: 99}
		}
		_ = append(a[i].J, api.Jump{To: 98}, api.Jump{To: 98})
		_ = append(all[0][i].J, api.Jump{To: 98}, api.Jump{To: 98})
	}
	_ = append(all[0], api.Flat{Op: 99}, api.Flat{Op: 99})
	if show(all[1]) != want {
		t.Error(show(all[1]))
	}
	lays(t, m, 0, want)
	lays(t, m, 1, want)
}
