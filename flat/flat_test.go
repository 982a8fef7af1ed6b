package flat

import (
	"reflect"
	"regexp"
	"slices"
	"strconv"
	"strings"
	"testing"

	"scarf/api"
	"scarf/instr"
	"scarf/valid"
)

const none = api.BlockNone

// row is a function's type, its code, what this is laid out as, and further types of its module.
type row struct {
	sig  string
	l    []api.Instr
	want string
	more []string
}

func rows(t *testing.T, l []row) {
	t.Helper()
	for _, r := range l {
		m := function(r.sig, r.l, r.more...)
		if e := valid.Check(m); e != api.OK {
			t.Errorf("%s %+v: %d", r.sig, r.l, e)
		}
		lays(t, m, 0, r.want)
	}
}

// 8.1: the chapter's and the document's examples.
func TestExamples(t *testing.T) {
	one, two, get := op(instr.I32Const, 1), op(instr.I32Const, 2), op(instr.LocalGet)
	rows(t, []row{
		{">i", code(with(instr.OpBlock, api.BlockI32, one, op(instr.Br))), "41(1) jump{2 1 0} end", nil},
		{"i>", code(with(instr.Loop, none, get, op(instr.BrIf))), "20 if{0 0 0 back} end", nil},
		{"i>i", code(get, either(api.BlockI32, code(one), code(two))), "20 zero{4 0 0} 41(1) jump{5 1 0} 41(2) end", nil},
	})
	l, e := Lay(function(">i", code(with(instr.OpBlock, api.BlockI32, one, op(instr.Br)))), 0)
	want := []api.Flat{{Op: 0x41, A: 1}, {Op: 0x100, J: []api.Jump{{To: 2, Keep: 1}}}, {Op: 0x104}}
	if e != api.OK || !reflect.DeepEqual(l, want) {
		t.Error(l, e)
	}
	l, e = Lay(function("i>", code(with(instr.Loop, none, get, op(instr.BrIf)))), 0)
	want = []api.Flat{{Op: 0x20}, {Op: 0x102, J: []api.Jump{{Back: true}}}, {Op: 0x104}}
	if e != api.OK || !reflect.DeepEqual(l, want) {
		t.Error(l, e)
	}
}

// 8.1: code without blocks, and blocks out of which nothing jumps: what stands within them.
func TestBlocks(t *testing.T) {
	nop := op(instr.Nop)
	l := []row{
		{">", nil, "end", nil},
		{">", code(nop), "end", nil},
		{">", code(nop, nop, with(instr.OpBlock, none, nop), nop), "end", nil},
		{">i", code(nop, c32, nop), "41(7) end", nil},
		{"il>li", code(op(instr.LocalGet, 1), nop, op(instr.LocalGet)), "20(1) 20 end", nil},
	}
	for _, o := range []int{instr.OpBlock, instr.Loop} {
		l = append(l, []row{
			{">", code(with(o, none)), "end", nil},
			{">", code(with(o, none, nop)), "end", nil},
			{">", code(with(o, 0)), "end", nil},
			{">i", code(with(o, api.BlockI32, c32)), "41(7) end", nil},
			{">l", code(with(o, api.BlockI64, c64)), "42(8) end", nil},
			{">r", code(with(o, api.BlockRef, null)), "d0 end", nil},
			{">il", code(c64, c32, with(o, 1, op(instr.Drop), op(instr.Drop), c32, c64)), "42(8) 41(7) 1a 1a 41(7) 42(8) end", []string{"li>il"}},
			{">lri", code(c64, c32, with(o, 1, op(instr.Drop), null, c32)), "42(8) 41(7) 1a d0 41(7) end", []string{"i>ri"}},
			{">i", code(c32, with(o, 1)), "41(7) end", []string{"i>i"}},
			{">", code(c32, c64, with(o, 1, op(instr.Drop), op(instr.Drop))), "41(7) 42(8) 1a 1a end", []string{"il>"}},
			{">", code(with(o, none, with(instr.Loop, none, with(instr.OpBlock, none, c32, op(instr.Drop))), with(instr.OpBlock, none))), "41(7) 1a end", nil},
		}...)
	}
	rows(t, l)
}

// 8.1: an If with an Else and without, with arguments and results, above other numbers.
func TestIfs(t *testing.T) {
	nop, drop := code(op(instr.Nop)), op(instr.Drop)
	rows(t, []row{
		{">", code(c32, with(instr.If, none)), "41(7) zero{2 0 0} end", nil},
		{">", code(c32, either(none, nop, nil)), "41(7) zero{2 0 0} end", nil},
		{">", code(c32, either(none, nil, []api.Instr{})), "41(7) zero{2 0 0} end", nil},
		{">", code(c32, either(none, nil, nop)), "41(7) zero{3 0 0} jump{3 0 0} end", nil},
		{">", code(c32, either(none, nop, nop)), "41(7) zero{3 0 0} jump{3 0 0} end", nil},
		{">", code(c32, with(instr.If, none, c64, drop), c32, drop), "41(7) zero{4 0 0} 42(8) 1a 41(7) 1a end", nil},
		{">", code(c32, either(none, nil, code(c64, drop)), c32, drop), "41(7) zero{3 0 0} jump{5 0 0} 42(8) 1a 41(7) 1a end", nil},
		{">", code(c32, either(none, code(c32, drop), code(c64, drop)), null, drop), "41(7) zero{5 0 0} 41(7) 1a jump{7 0 0} 42(8) 1a d0 1a end", nil},
		// Numbers stand below it, it has arguments, and results.
		{">lri", code(c64, null, c32, either(api.BlockI32, code(c32), code(op(0x41, 9)))), "42(8) d0 41(7) zero{6 0 2} 41(7) jump{7 1 2} 41(9) end", nil},
		{">li", code(c64, c32, c32, with(instr.If, 1, op(0x45))), "42(8) 41(7) 41(7) zero{5 1 1} 45 end", []string{"i>i"}},
		{">rli", code(null, c64, c32, c32, with(instr.If, 1)), "d0 42(8) 41(7) 41(7) zero{5 2 1} end", []string{"li>li"}},
		{">l", code(c64, c32, c32, either(1, code(drop), code(drop))), "42(8) 41(7) 41(7) zero{6 1 1} 1a jump{7 0 1} 1a end", []string{"i>"}},
		{">lii", code(c64, c32, c64, c32, either(1, code(drop, c32), code(op(0xA7)))), "42(8) 41(7) 42(8) 41(7) zero{8 2 1} 1a 41(7) jump{9 2 1} a7 end", []string{"il>ii"}},
		{">llrr", code(c64, c32, either(1, code(c64, null, null), code(c64, null, null))), "42(8) 41(7) zero{7 0 1} 42(8) d0 d0 jump{10 3 1} 42(8) d0 d0 end", []string{">lrr"}},
		// What stands behind its L begins with its arguments, whatever L ended with.
		{">l", code(c32, c32, either(1, code(op(0xAC)), code(with(instr.OpBlock, 2, c64, op(instr.Br)), with(instr.OpBlock, 3, op(instr.Br))))), "41(7) 41(7) zero{5 1 0} ac jump{8 1 0} 42(8) jump{7 1 0} jump{8 1 0} end", []string{"i>l", "i>l", "l>l"}},
		// One within another one, in either part, and blocks of other kinds.
		{">i", code(c32, either(api.BlockI32, code(c32, either(api.BlockI32, code(c32), code(c32))), code(c32, c32, with(instr.If, 1)))), "41(7) zero{8 0 0} 41(7) zero{6 0 0} 41(7) jump{7 1 0} 41(7) jump{11 1 0} 41(7) 41(7) zero{11 1 0} end", []string{"i>i"}},
		{">", code(c32, with(instr.If, none, c32, with(instr.If, none, c32, with(instr.If, none)))), "41(7) zero{6 0 0} 41(7) zero{6 0 0} 41(7) zero{6 0 0} end", nil},
		{">", code(c32, either(none, code(with(instr.OpBlock, none)), code(with(instr.Loop, none)))), "41(7) zero{3 0 0} jump{3 0 0} end", nil},
	})
}

// within is code of five labels around what is given: of a block, of a Loop, of an If's L, of another one's E, of the function's code; behind each one there stands something.
func within(l ...api.Instr) []api.Instr {
	behind := func(in api.Instr) []api.Instr { return code(in, null, op(instr.Drop)) }
	third := with(instr.If, none, behind(with(instr.Loop, none, behind(with(instr.OpBlock, none, l...))...))...)
	return append(code(c32), behind(either(none, nil, append(code(c32), behind(third)...)))...)
}

// 8.1: each jump to each label: of the code, of blocks, of a Loop, of an If's parts.
func TestLabels(t *testing.T) {
	drop := op(instr.Drop)
	for n, to := range []string{"{9 0 0}", "{5 0 0 back}", "{13 0 0}", "{15 0 0}", "{17 0 0}"} {
		l := within(c32, op(instr.BrIf, n), c64, drop)
		rows(t, []row{{">", l, "41(7) zero{3 0 0} jump{15 0 0} 41(7) zero{13 0 0} 41(7) if" + to + " 42(8) 1a d0 1a d0 1a d0 1a d0 1a end", nil}})
	}
	for n, to := range []string{"", "{5 0 0 back}", "{6 0 0}", "{8 0 0}", "{10 0 0}"} {
		if n == 0 {
			rows(t, []row{{">", within(op(instr.Br), c64, drop), "41(7) zero{3 0 0} jump{12 0 0} 41(7) zero{10 0 0} jump{6 0 0} d0 1a d0 1a d0 1a d0 1a end", nil}})
			continue
		}
		want := "41(7) zero{3 0 0} jump{8 0 0} 41(7) zero{6 0 0} jump" + to + " d0 1a d0 1a end"
		rows(t, []row{{">", within(op(instr.Br, n), c64, drop), want, nil}, {">", within(op(instr.Br, n)), want, nil}})
	}
	rows(t, []row{
		{">", within(op(instr.Return), drop), "41(7) zero{3 0 0} jump{8 0 0} 41(7) zero{6 0 0} jump{10 0 0} d0 1a d0 1a end", nil},
		{">", within(c32, table(0)), "41(7) zero{3 0 0} jump{13 0 0} 41(7) zero{11 0 0} 41(7) table{7 0 0} d0 1a d0 1a d0 1a d0 1a end", nil},
		{">", within(c32, table(0), c64, drop), "41(7) zero{3 0 0} jump{13 0 0} 41(7) zero{11 0 0} 41(7) table{7 0 0} d0 1a d0 1a d0 1a d0 1a end", nil},
		{">", within(c32, table(1)), "41(7) zero{3 0 0} jump{9 0 0} 41(7) zero{7 0 0} 41(7) table{5 0 0 back} d0 1a d0 1a end", nil},
		{">", within(c32, table(4, 2, 3, 1, 1)), "41(7) zero{3 0 0} jump{9 0 0} 41(7) zero{7 0 0} 41(7) table{7 0 0}{9 0 0}{5 0 0 back}{5 0 0 back}{11 0 0} d0 1a d0 1a end", nil},
		{">", within(c32, table(4, 3, 2, 1, 0)), "41(7) zero{3 0 0} jump{13 0 0} 41(7) zero{11 0 0} 41(7) table{13 0 0}{11 0 0}{5 0 0 back}{7 0 0}{15 0 0} d0 1a d0 1a d0 1a d0 1a end", nil},
	})
}

// 8.1: what a jump keeps, and above how many: a block's results, a Loop's arguments, above what stands below the arguments.
func TestKept(t *testing.T) {
	drop, br, brif, ret := op(instr.Drop), op(instr.Br), op(instr.BrIf), op(instr.Return)
	rows(t, []row{
		// Of the function's code: its results, above nothing.
		{">li", code(c64, c32, c32, brif), "42(8) 41(7) 41(7) if{4 2 0} end", nil},
		{">li", code(null, c64, c32, br), "d0 42(8) 41(7) jump{4 2 0} end", nil},
		{">li", code(null, c64, c32, ret), "d0 42(8) 41(7) jump{4 2 0} end", nil},
		{">li", code(null, c64, c32, c32, table(0)), "d0 42(8) 41(7) 41(7) table{5 2 0} end", nil},
		{"il>", code(c32, brif), "41(7) if{2 0 0} end", nil},
		// Of blocks with other numbers below them, and above what they take and leave.
		{">rl", code(null, with(instr.OpBlock, api.BlockI64, c32, c32, c64, br)), "d0 41(7) 41(7) 42(8) jump{5 1 1} end", nil},
		{">rl", code(null, with(instr.OpBlock, api.BlockI64, c64, c32, brif)), "d0 42(8) 41(7) if{4 1 1} end", nil},
		{">rl", code(null, c32, with(instr.OpBlock, 1, drop, c64, c32, brif)), "d0 41(7) 1a 42(8) 41(7) if{6 1 1} end", []string{"i>l"}},
		{">r", code(null, c32, c64, with(instr.OpBlock, 1, br)), "d0 41(7) 42(8) jump{4 0 1} end", []string{"il>"}},
		{">rlil", code(null, c64, with(instr.OpBlock, 1, drop, c64, c32, c64, br), op(instr.Nop)), "d0 42(8) 1a 42(8) 41(7) 42(8) jump{7 3 1} end", []string{"l>lil"}},
		{">rr", code(null, c32, c64, null, with(instr.OpBlock, 1, c32, table(0, 0))), "d0 41(7) 42(8) d0 41(7) table{6 1 1}{6 1 1} end", []string{"ilr>r"}},
		{">l", code(c64, c32, c32, with(instr.If, 1, drop, c32, br), drop), "42(8) 41(7) 41(7) zero{7 1 1} 1a 41(7) jump{7 1 1} 1a end", []string{"i>i"}},
		{">li", code(c64, c32, either(api.BlockI32, code(c64, c32, br), code(c64, null, c32, c32, brif, br))), "42(8) 41(7) zero{6 0 1} 42(8) 41(7) jump{12 1 1} 42(8) d0 41(7) 41(7) if{12 1 1} jump{12 1 1} end", nil},
		// Of a Loop: its arguments, with as many results as ever.
		{">rl", code(null, c32, with(instr.Loop, 1, drop, c64, c32, c32, brif, drop)), "d0 41(7) 1a 42(8) 41(7) 41(7) if{2 1 1 back} 1a end", []string{"i>l"}},
		{">r", code(null, c32, c64, with(instr.Loop, 1, c32, brif, drop, drop)), "d0 41(7) 42(8) 41(7) if{3 2 1 back} 1a 1a end", []string{"il>"}},
		{">rll", code(null, with(instr.Loop, 1, c32, brif, c64, c64)), "d0 41(7) if{1 0 1 back} 42(8) 42(8) end", []string{">ll"}},
		{">rlll", code(null, c32, with(instr.Loop, 1, c64, drop, br)), "d0 41(7) 42(8) 1a jump{2 1 1 back} end", []string{"i>lll"}},
		{">", code(with(instr.Loop, none, br)), "jump{0 0 0 back} end", nil},
		{">", code(c32, with(instr.Loop, 1, br)), "41(7) jump{1 1 0 back} end", []string{"i>"}},
		// Out of several blocks, each of which stands above other numbers.
		{">lr", code(c64, with(instr.OpBlock, api.BlockRef, c32, c32, with(instr.Loop, 1, c32, with(instr.If, none, c64, null, op(instr.Br, 2)), br), op(instr.Unreachable))), "42(8) 41(7) 41(7) 41(7) zero{8 0 3} 42(8) d0 jump{9 1 1} jump{3 1 2 back} end", []string{"i>"}},
		{">lr", code(c64, with(instr.OpBlock, api.BlockRef, c32, with(instr.Loop, 1, drop, c64, null, c32, with(instr.OpBlock, 2, drop, c32, table(2, 0)), op(instr.Br, 1))), ret), "42(8) 41(7) 1a 42(8) d0 41(7) 1a 41(7) table{9 1 2}{10 1 1} jump{10 1 1} jump{11 2 0} end", []string{"i>r", "ri>r"}},
		{">", code(c64, with(instr.OpBlock, none, c64, with(instr.OpBlock, none, c64, with(instr.OpBlock, none, c64, c32, table(3, 0, 1, 2)), c32, op(instr.BrIf, 2), drop), c64, op(instr.Br, 1)), drop), "42(8) 42(8) 42(8) 42(8) 41(7) table{6 0 3}{9 0 2}{11 0 1}{12 0 0} 41(7) if{12 0 0} 1a 42(8) jump{12 0 0} 1a end", nil},
		// Behind a block there stand its results above what stood below it, wherever it was left from.
		{">l", code(c64, c32, with(instr.OpBlock, 1, c64, c64, br), with(instr.OpBlock, 2, br)), "42(8) 41(7) 42(8) 42(8) jump{5 2 1} jump{6 0 1} end", []string{"i>ll", "ll>"}},
		{">l", code(c64, c32, either(none, code(c64, c64, br), nil), with(instr.OpBlock, none, br)), "42(8) 41(7) zero{6 0 1} 42(8) 42(8) jump{6 0 1} jump{7 0 1} end", nil},
	})
}

// ender is an instruction behind which nothing is laid out, as it stands in so many blocks, and what it is laid out as, with E for the end of the code.
type ender struct {
	in   func(n int) api.Instr
	text string
}

func enders() []ender {
	return []ender{
		{func(int) api.Instr { return op(instr.Unreachable) }, "0"},
		{func(n int) api.Instr { return op(instr.Br, n) }, "jump{E 0 0}"},
		{func(n int) api.Instr { return table(n, n) }, "table{E 0 0}{E 0 0}"},
		{func(int) api.Instr { return op(instr.Return) }, "jump{E 0 0}"},
		{func(int) api.Instr { return with(instr.OpBlock, 1, op(instr.Unreachable), op(instr.Br)) }, "0"},
		{func(n int) api.Instr { return with(instr.Loop, 1, with(instr.OpBlock, 1, op(instr.Br, n+2))) }, "jump{E 0 0}"},
	}
}

// ender7 is a number, and what stands for an ender.
var ender7 = code(c32, op(-1))

// filled is code in which an ender stands, where something stood for it.
func filled(l []api.Instr, x ender, deep int) []api.Instr {
	l = slices.Clone(l)
	for i, in := range l {
		if in.Op == -1 {
			l[i] = x.in(deep)
			continue
		}
		l[i].L, l[i].E = filled(in.L, x, deep+1), filled(in.E, x, deep+1)
	}
	return l
}

var braces = regexp.MustCompile("{[^}]*}")

// nevers asks about code with each ender in it; X is what this is laid out as.
func nevers(t *testing.T, want string, l ...[]api.Instr) {
	t.Helper()
	end := strconv.Itoa(strings.Count(braces.ReplaceAllString(want, ""), " "))
	for _, x := range enders() {
		text := strings.ReplaceAll(want, "X", strings.ReplaceAll(x.text, "E", end))
		rows(t, []row{{">", filled(slices.Concat(l...), x, 0), text, []string{"i>"}}})
	}
}

// inBlock, inLoop and inIf are blocks without a type.
func inBlock(l ...[]api.Instr) []api.Instr {
	return code(with(instr.OpBlock, none, slices.Concat(l...)...))
}
func inLoop(l ...[]api.Instr) []api.Instr {
	return code(with(instr.Loop, none, slices.Concat(l...)...))
}
func inIf(l, e []api.Instr) []api.Instr { return code(c32, either(none, l, e)) }

// maybe is a jump that may be gone.
func maybe(n int) []api.Instr { return code(c32, op(instr.BrIf, n)) }

// behind is something behind others.
var behind = code(null, op(instr.Drop))

// 8.1: nothing is laid out behind an ender up to the block's end, nor behind a block to whose end no jump leads.
func TestNever(t *testing.T) {
	end := ender7
	nevers(t, "41(7) X end", end)
	nevers(t, "41(7) X end", end, behind, end)
	nevers(t, "d0 1a 41(7) X end", behind, end, behind)
	nevers(t, "41(7) X end", end, code(op(instr.Nop)))
	nevers(t, "41(7) X end", inBlock(end), behind)
	nevers(t, "41(7) X end", inBlock(end, behind), behind)
	nevers(t, "41(7) X end", inLoop(end), behind)
	nevers(t, "41(7) X end", inLoop(end, behind), behind)
	nevers(t, "41(7) X end", inBlock(inBlock(inLoop(end, behind), behind), behind), behind)
	nevers(t, "d0 1a d0 1a d0 1a 41(7) X end", behind, inBlock(behind, inLoop(behind, end, behind), behind), behind)
	// A jump to the block's end, whether something stands behind it or not.
	nevers(t, "41(7) if{4 0 0} 41(7) X d0 1a end", inBlock(maybe(0), end), behind)
	nevers(t, "41(7) if{4 0 0} 41(7) X d0 1a end", inBlock(maybe(0), end, behind), behind)
	nevers(t, "41(7) if{4 0 0} 41(7) X end", inBlock(maybe(0), end))
	// A jump to where a Loop begins is none.
	nevers(t, "41(7) if{0 0 0 back} 41(7) X end", inLoop(maybe(0), end), behind)
	nevers(t, "41(7) if{4 0 0} 41(7) X d0 1a end", inBlock(inLoop(maybe(1), end), behind), behind)
	nevers(t, "41(7) if{4 0 0} 41(7) X d0 1a d0 1a end", inBlock(inBlock(maybe(0), end), behind), behind)
	nevers(t, "41(7) if{4 0 0} 41(7) X d0 1a end", inBlock(inBlock(maybe(1), end), behind), behind)
	nevers(t, "41(7) if{4 0 0} 41(7) X end", inBlock(inBlock(maybe(2), end), behind), behind)
	nevers(t, "41(7) if{6 0 0} 41(7) if{8 0 0} 41(7) X d0 1a d0 1a end", inBlock(inBlock(maybe(0), maybe(1), end), behind), behind)
	// A jump that is not laid out is none.
	nevers(t, "41(7) X end", inBlock(end, maybe(0)), behind)
	nevers(t, "41(7) X end", inBlock(end, inBlock(code(op(instr.Br, 1)))), behind)
	nevers(t, "41(7) X end", inBlock(end, code(c32, table(0, 0))), behind)
	nevers(t, "41(7) X end", inBlock(inBlock(end, maybe(1)), maybe(0)), behind)
	nevers(t, "41(7) X end", inBlock(inLoop(end), maybe(0)), behind)
	// One that is laid out is one, whether it is ever gone or not.
	rows(t, []row{
		{">", slices.Concat(inBlock(code(op(0x41), op(instr.BrIf), op(instr.Unreachable))), behind), "41 if{3 0 0} 0 d0 1a end", nil},
		{">", slices.Concat(inBlock(code(op(0x41, 1), table(0, 1)), behind), behind), "41(1) table{4 0 0}{2 0 0} d0 1a end", nil},
		{">", slices.Concat(inBlock(code(op(0x41), table(1, 1, 0)), behind), behind), "41 table{4 0 0}{2 0 0}{4 0 0} d0 1a end", nil},
		{">", slices.Concat(inBlock(code(op(0x41), op(instr.BrIf)), inLoop(code(op(instr.Br)))), behind), "41 if{3 0 0} jump{2 0 0 back} d0 1a end", nil},
		{">", slices.Concat(inBlock(code(op(instr.Br))), behind), "jump{1 0 0} d0 1a end", nil},
		{">", slices.Concat(inBlock(code(op(instr.Br)), behind), behind), "jump{1 0 0} d0 1a end", nil},
		{">", slices.Concat(inLoop(code(op(instr.Br))), behind), "jump{0 0 0 back} end", nil},
		{">", slices.Concat(inLoop(inBlock(code(op(instr.Br)))), behind), "jump{1 0 0} d0 1a end", nil},
		{">", slices.Concat(inLoop(inBlock(code(op(instr.Br, 1)))), behind), "jump{0 0 0 back} end", nil},
		{">", slices.Concat(inBlock(inLoop(code(op(instr.Br, 1)))), behind), "jump{1 0 0} d0 1a end", nil},
	})
}

// 8.1: an If behind which nothing goes on, and others.
func TestNeverIfs(t *testing.T) {
	end, nop := ender7, code(op(instr.Nop))
	// Without an Else something goes on behind it.
	nevers(t, "41(7) zero{4 0 0} 41(7) X d0 1a end", inIf(end, nil), behind)
	nevers(t, "41(7) zero{4 0 0} 41(7) X d0 1a end", inIf(slices.Concat(end, behind), nil), behind)
	nevers(t, "41(7) zero{4 0 0} 41(7) X end", inIf(end, nil))
	nevers(t, "41(7) zero{6 0 0} 41(7) if{6 0 0} 41(7) X d0 1a end", inIf(slices.Concat(maybe(0), end), nil), behind)
	// From one part something goes on.
	nevers(t, "41(7) zero{4 0 0} 41(7) X d0 1a d0 1a end", inIf(slices.Concat(end, behind), behind), behind)
	nevers(t, "41(7) zero{4 0 0} 41(7) X d0 1a end", inIf(end, nop), behind)
	nevers(t, "41(7) zero{4 0 0} 41(7) X d0 1a end", inIf(end, inBlock()), behind)
	nevers(t, "41(7) zero{5 0 0} d0 1a jump{7 0 0} 41(7) X d0 1a end", inIf(behind, slices.Concat(end, behind)), behind)
	nevers(t, "41(7) zero{3 0 0} jump{5 0 0} 41(7) X d0 1a end", inIf(nil, end), behind)
	nevers(t, "41(7) zero{3 0 0} jump{5 0 0} 41(7) X d0 1a end", inIf(nop, end), behind)
	// From neither one.
	nevers(t, "41(7) zero{4 0 0} 41(7) X 41(7) X end", inIf(end, end), behind)
	nevers(t, "41(7) zero{4 0 0} 41(7) X 41(7) X end", inIf(slices.Concat(end, behind), slices.Concat(end, behind)), behind)
	nevers(t, "41(7) zero{4 0 0} 41(7) X 41(7) X end", inBlock(inIf(inBlock(end), inLoop(end, behind)), behind), behind)
	nevers(t, "41(7) zero{4 0 0} 41(7) X 41(7) X end", inIf(slices.Concat(end, maybe(0)), slices.Concat(end, maybe(0))), behind)
	nevers(t, "41(7) zero{8 0 0} 41(7) zero{6 0 0} 41(7) X 41(7) X 41(7) X end", inIf(inIf(end, end), end), behind)
	// From neither one, but a jump leads to its end.
	nevers(t, "41(7) zero{6 0 0} 41(7) if{8 0 0} 41(7) X 41(7) X d0 1a end", inIf(slices.Concat(maybe(0), end), end), behind)
	nevers(t, "41(7) zero{4 0 0} 41(7) X 41(7) if{8 0 0} 41(7) X d0 1a end", inIf(end, slices.Concat(maybe(0), end)), behind)
	nevers(t, "41(7) zero{4 0 0} 41(7) X 41(7) if{8 0 0} 41(7) X d0 1a end", inIf(end, inBlock(maybe(1), end)), behind)
	// To the end of the block around it.
	nevers(t, "41(7) zero{6 0 0} 41(7) if{8 0 0} 41(7) X 41(7) X d0 1a end", inBlock(inIf(slices.Concat(maybe(1), end), end), behind), behind)
	nevers(t, "41(7) zero{4 0 0} 41(7) X 41(7) if{0 0 0 back} 41(7) X end", inLoop(inIf(end, slices.Concat(maybe(1), end)), behind), behind)
	br := code(op(instr.Br))
	rows(t, []row{
		{">", slices.Concat(inIf(br, nil), behind), "41(7) zero{3 0 0} jump{3 0 0} d0 1a end", nil},
		{">", slices.Concat(inIf(br, br), behind), "41(7) zero{3 0 0} jump{4 0 0} jump{4 0 0} d0 1a end", nil},
		{">", slices.Concat(inIf(slices.Concat(br, behind), behind), behind), "41(7) zero{3 0 0} jump{5 0 0} d0 1a d0 1a end", nil},
		{">", slices.Concat(inIf(behind, slices.Concat(br, behind)), behind), "41(7) zero{5 0 0} d0 1a jump{6 0 0} jump{6 0 0} d0 1a end", nil},
		{">", slices.Concat(inLoop(inIf(code(op(instr.Br, 1)), code(op(instr.Br, 1)))), behind), "41(7) zero{3 0 0} jump{0 0 0 back} jump{0 0 0 back} end", nil},
	})
}

// 8.1: what a block leaves, behind which nothing goes on, is not there, whatever its type.
func TestNeverTyped(t *testing.T) {
	never := op(instr.Unreachable)
	for _, a := range []int{none, api.BlockI32, api.BlockI64, api.BlockRef, 1, 2} {
		for _, o := range []int{instr.OpBlock, instr.Loop} {
			for _, l := range [][]api.Instr{nil, code(c64, never), code(never, c64, never)} {
				for _, sig := range []string{">", ">i", ">lil"} {
					in := with(o, a, append(slices.Clone(l), never)...)
					m := function(sig, code(null, c32, in, never), "i>i", "i>rrrrr")
					want := "d0 41(7) 42(8) 0 end"
					if len(l) != 2 {
						want = "d0 41(7) 0 end"
					}
					lays(t, m, 0, want)
				}
			}
		}
		jump := "{5 0 2}"
		if a > 0 {
			jump = "{5 1 1}"
		}
		in := either(a, code(never, c64, op(instr.Drop)), code(c64, never))
		lays(t, function(">", code(null, c32, c32, in, c32, op(instr.BrIf), never), "i>i", "i>rrrrr"), 0, "d0 41(7) 41(7) zero"+jump+" 0 42(8) 0 end")
	}
}
