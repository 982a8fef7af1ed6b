package flat

import (
	"fmt"
	"slices"
	"strings"
	"testing"

	"scarf/api"
	"scarf/instr"
)

// In these tests types are letters: i is I32, l is I64, r is FuncRef; ? stands for any, * for one of those that are there where nothing goes on.

// letters are types as letters.
func letters(types []int) string {
	s := ""
	for _, t := range types {
		s += string(map[int]rune{0x7F: 'i', 0x7E: 'l', 0x70: 'r'}[t])
	}
	return s
}

// types are letters as types.
func types(s string) []int {
	var l []int
	for _, c := range s {
		l = append(l, map[rune]int{'i': 0x7F, 'l': 0x7E, 'r': 0x70}[c])
	}
	return l
}

// functype is of what is taken and what is left, with a > between.
func functype(s string) api.FuncType {
	taken, left, _ := strings.Cut(s, ">")
	return api.FuncType{P: types(taken), R: types(left)}
}

// sigRow is opcodes, from the one to the other, with what they take and leave.
type sigRow struct {
	from, to int
	sig      string
}

// sigRows are the instructions that always take and leave the same, as chapters 3, 4 and 7 list them, by numbers.
func sigRows() []sigRow {
	return []sigRow{
		{0x45, 0x45, "i>i"}, {0x46, 0x4F, "ii>i"}, {0x50, 0x50, "l>i"}, {0x51, 0x5A, "ll>i"},
		{0x67, 0x69, "i>i"}, {0x6A, 0x78, "ii>i"}, {0x79, 0x7B, "l>l"}, {0x7C, 0x8A, "ll>l"},
		{0xA7, 0xA7, "l>i"}, {0xAC, 0xAD, "i>l"}, {0xC0, 0xC1, "i>i"}, {0xC2, 0xC4, "l>l"},
		{0x41, 0x41, ">i"}, {0x42, 0x42, ">l"}, {0xD0, 0xD0, ">r"}, {0xD1, 0xD1, "r>i"}, {0xD2, 0xD2, ">r"},
		{0x28, 0x28, "i>i"}, {0x29, 0x29, "i>l"}, {0x2C, 0x2F, "i>i"}, {0x30, 0x35, "i>l"},
		{0x36, 0x36, "ii>"}, {0x37, 0x37, "il>"}, {0x3A, 0x3B, "ii>"}, {0x3C, 0x3E, "il>"},
		{0x3F, 0x3F, ">i"}, {0x40, 0x40, "i>i"}, {0xFC0B, 0xFC0B, "iii>"}, {0xFC0A, 0xFC0A, "iii>"},
		{0x25, 0x25, "i>r"}, {0x26, 0x26, "ir>"}, {0xFC10, 0xFC10, ">i"}, {0xFC0F, 0xFC0F, "ri>i"}, {0xFC11, 0xFC11, "iri>"}, {0xFC0E, 0xFC0E, "iii>"},
	}
}

// sigOf is what each opcode that has a row takes and leaves.
var sigOf = func() map[int]string {
	book := map[int]string{}
	for _, r := range sigRows() {
		for op := r.from; op <= r.to; op++ {
			book[op] = r.sig
		}
	}
	return book
}()

// funcs are the types of a module's functions.
func funcs(m api.Module) []int {
	var l []int
	for _, in := range m.Imports {
		if in.Kind == 0 {
			l = append(l, in.T)
		}
	}
	return append(l, m.Funcs...)
}

// effect tells how many numbers an instruction that is no block and no jump takes and leaves.
func effect(m api.Module, o, a int) (int, int) {
	if s, ok := sigOf[o]; ok {
		taken, left, _ := strings.Cut(s, ">")
		return len(taken), len(left)
	}
	switch o {
	case 0x10:
		f := m.Types[funcs(m)[a]]
		return len(f.P), len(f.R)
	case 0x11:
		return len(m.Types[a].P) + 1, len(m.Types[a].R)
	case 0x1A, 0x21, 0x24:
		return 1, 0
	case 0x1B, 0x1C:
		return 3, 1
	case 0x20, 0x23:
		return 0, 1
	case 0x22:
		return 1, 1
	}
	panic(fmt.Sprintf("no instruction %x", o))
}

// arity tells how many arguments and results a block's type has.
func arity(m api.Module, a int) (int, int) {
	switch a {
	case -64:
		return 0, 0
	case -1, -2, -16:
		return 0, 1
	}
	return len(m.Types[a].P), len(m.Types[a].R)
}

// laid are those of a block's instructions that are laid out.
func laid(l []api.Instr) []api.Instr {
	for i, in := range l {
		if never(in) {
			return l[:i+1]
		}
	}
	return l
}

// ends tells whether nothing goes on at a list's end.
func ends(l []api.Instr) bool {
	l = laid(l)
	return len(l) > 0 && never(l[len(l)-1])
}

// never tells whether nothing goes on behind an instruction.
func never(in api.Instr) bool {
	switch in.Op {
	case 0x00, 0x0C, 0x0E, 0x0F:
		return true
	case 0x02:
		return ends(in.L) && !leads(in.L, 0)
	case 0x03:
		return ends(in.L)
	case 0x04:
		return len(in.E) > 0 && ends(in.L) && ends(in.E) && !leads(in.L, 0) && !leads(in.E, 0)
	}
	return false
}

// leads tells whether a jump that is laid out leads to a label.
func leads(l []api.Instr, n int) bool {
	return slices.ContainsFunc(laid(l), func(in api.Instr) bool {
		switch in.Op {
		case 0x0C, 0x0D:
			return in.A == n
		case 0x0E:
			return in.A == n || slices.Contains(in.N, n)
		case 0x02, 0x03, 0x04:
			return leads(in.L, n+1) || leads(in.E, n+1)
		}
		return false
	})
}

// item is an instruction whose jumps lead to marks, or, if mark is not 0, a mark.
type item struct {
	in   api.Flat
	mark int
}

// scribe lays out code by the chapter's words, first with marks, which are resolved behind that.
type scribe struct {
	m     api.Module
	marks int
	items []item
}

func (s *scribe) mark() int { s.marks++; return s.marks }

func (s *scribe) put(op int, j ...api.Jump) {
	s.items = append(s.items, item{in: api.Flat{Op: op, J: j}})
}

func (s *scribe) here(mark int) { s.items = append(s.items, item{mark: mark}) }

// list lays out instructions with so many numbers on the stack; the labels are jumps, the innermost one last.
func (s *scribe) list(l []api.Instr, high int, labels []api.Jump) {
	to := func(n int) api.Jump { return labels[len(labels)-1-n] }
	for _, in := range laid(l) {
		switch in.Op {
		case 0x00:
			s.put(0)
		case 0x01:
		case 0x02, 0x03, 0x04:
			taken, left := arity(s.m, in.A)
			if in.Op == 0x04 {
				high--
			}
			s.block(in, high-taken, taken, left, labels)
			high += left - taken
		case 0x0C:
			s.put(0x100, to(in.A))
		case 0x0D:
			high--
			s.put(0x102, to(in.A))
		case 0x0E:
			var j []api.Jump
			for _, n := range in.N {
				j = append(j, to(n))
			}
			s.put(0x103, append(j, to(in.A))...)
		case 0x0F:
			s.put(0x100, labels[0])
		default:
			taken, left := effect(s.m, in.Op, in.A)
			high += left - taken
			s.items = append(s.items, item{in: api.Flat{Op: in.Op, A: in.A, M: in.M}})
		}
	}
}

func (s *scribe) block(in api.Instr, base, taken, left int, labels []api.Jump) {
	start, end, other := s.mark(), s.mark(), s.mark()
	toEnd := api.Jump{To: end, Keep: left, Base: base}
	within := append(slices.Clone(labels), toEnd)
	if in.Op == 0x03 {
		within[len(labels)] = api.Jump{To: start, Keep: taken, Base: base, Back: true}
	}
	if in.Op == 0x04 {
		s.put(0x101, api.Jump{To: other, Keep: taken, Base: base})
	}
	s.here(start)
	s.list(in.L, base+taken, within)
	if len(in.E) > 0 && !ends(in.L) {
		s.put(0x100, toEnd)
	}
	s.here(other)
	s.list(in.E, base+taken, within)
	s.here(end)
}

// plainLay is Lay by the chapter's words, of a module that may be run.
func plainLay(m api.Module, f int) []api.Flat {
	s := &scribe{m: m}
	end := s.mark()
	s.list(m.Codes[f].L, 0, []api.Jump{{To: end, Keep: len(m.Types[m.Funcs[f]].R)}})
	s.here(end)
	s.put(0x104)
	at, many := map[int]int{}, 0
	for _, x := range s.items {
		if x.mark > 0 {
			at[x.mark] = many
		} else {
			many++
		}
	}
	var l []api.Flat
	for _, x := range s.items {
		if x.mark == 0 {
			for i := range x.in.J {
				x.in.J[i].To = at[x.in.J[i].To]
			}
			l = append(l, x.in)
		}
	}
	return l
}

// show tells flat code: opcodes to the base 16, or jumps by a word, with A and M in brackets, and jumps in braces.
func show(l []api.Flat) string {
	var words []string
	for _, in := range l {
		w, ok := map[int]string{0x100: "jump", 0x101: "zero", 0x102: "if", 0x103: "table", 0x104: "end"}[in.Op]
		if !ok {
			w = fmt.Sprintf("%x", in.Op)
		}
		if in.M != 0 {
			w += fmt.Sprintf("(%d %d)", in.A, in.M)
		} else if in.A != 0 {
			w += fmt.Sprintf("(%d)", in.A)
		}
		for _, j := range in.J {
			w += fmt.Sprintf("{%d %d %d}", j.To, j.Keep, j.Base)
			if j.Back {
				w = strings.TrimSuffix(w, "}") + " back}"
			}
		}
		words = append(words, w)
	}
	return strings.Join(words, " ")
}

// op is an instruction with its A, B and M.
func op(o int, n ...int) api.Instr {
	n = append(n, 0, 0, 0)
	return api.Instr{Op: o, A: n[0], B: n[1], M: n[2]}
}

// code is instructions.
func code(l ...api.Instr) []api.Instr { return l }

// with is a block with what stands within it.
func with(o, a int, l ...api.Instr) api.Instr { return api.Instr{Op: o, A: a, L: l} }

// either is an If with an Else.
func either(a int, l, e []api.Instr) api.Instr { return api.Instr{Op: instr.If, A: a, L: l, E: e} }

// table is a BrTable, the last label first.
func table(a int, n ...int) api.Instr { return api.Instr{Op: instr.BrTable, A: a, N: n} }

// c32, c64, null are constants.
var c32, c64, null = op(instr.I32Const, 7), op(instr.I64Const, 8), op(instr.RefNull)

// consts are constants of types.
func consts(s string) []api.Instr {
	var l []api.Instr
	for _, c := range s {
		l = append(l, map[rune]api.Instr{'i': c32, 'l': c64, 'r': null}[c])
	}
	return l
}

// function is a module with a function of a type (its type is 0), and further types.
func function(sig string, l []api.Instr, more ...string) api.Module {
	m := api.Module{Types: []api.FuncType{functype(sig)}, Funcs: []int{0}, Codes: []api.Code{{L: l}}}
	for _, s := range more {
		m.Types = append(m.Types, functype(s))
	}
	return m
}

// lays asks how an own function is laid out, by Lay, by All, and by the chapter's words.
func lays(t *testing.T, m api.Module, f int, want string) {
	t.Helper()
	l, e := Lay(m, f)
	if got := show(l); e != api.OK || got != want {
		t.Errorf("%+v\nLay: %d %s\nwant:  %s", m.Codes[f].L, e, got, want)
		return
	}
	sound(t, l, len(m.Types[m.Funcs[f]].R))
	if all := All(m); len(all) != len(m.Funcs) || show(all[f]) != want {
		t.Errorf("%+v\nAll: %v\nwant: %s", m.Codes[f].L, all, want)
	}
	if got := show(plainLay(m, f)); got != want {
		t.Errorf("%+v\nby the words: %s\nwant:         %s", m.Codes[f].L, got, want)
	}
}

// sound asks that jumps lead into the list, forward but those that are Back, that each field which is not named is zero, and that FlatEnd stands behind all.
func sound(t *testing.T, l []api.Flat, results int) {
	t.Helper()
	for i, in := range l {
		if in.Op >= 0x100 && in.Op <= 0x104 {
			jumps := 1
			if in.Op == 0x104 {
				jumps = 0
			}
			if in.A != 0 || in.M != 0 || len(in.J) != jumps && (in.Op != 0x103 || jumps == 0) {
				t.Errorf("%d: %+v", i, in)
			}
		} else if len(in.J) > 0 {
			t.Errorf("%d: %+v", i, in)
		}
		for _, j := range in.J {
			if j.To < 0 || j.To >= len(l) || j.Back != (j.To <= i) || j.Keep < 0 || j.Base < 0 {
				t.Errorf("%d of %d: %+v", i, len(l), in)
			}
			if j.To == len(l)-1 && (j.Keep+j.Base != results) {
				t.Errorf("%d of %d: %+v, %d results", i, len(l), in, results)
			}
		}
		if (in.Op == 0x104) != (i == len(l)-1) {
			t.Errorf("%d of %d: %+v", i, len(l), in)
		}
	}
}
