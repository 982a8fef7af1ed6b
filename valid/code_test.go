package valid

import (
	"slices"
	"strings"
	"testing"

	"scarf/api"
	"scarf/instr"
)

// sample is an instruction within whole, with what it takes and leaves; a ! stands for: never.
type sample struct {
	in  api.Instr
	sig string
}

// samples are all instructions that are no blocks, each with all that it may take and leave, in a function of two results "il" with one local of each type.
func samples() []sample {
	var l []sample
	for _, r := range sigRows() {
		for o := r.from; o <= r.to; o++ {
			l = append(l, sample{op(o), r.sig})
		}
	}
	l = append(l, sample{op(instr.Drop), "i>"}, sample{op(instr.Drop), "l>"}, sample{op(instr.Drop), "r>"}, sample{op(instr.Select), "iii>i"}, sample{op(instr.Select), "lli>l"})
	l = append(l, sample{op(instr.SelectT, 0x7F), "iii>i"}, sample{op(instr.SelectT, 0x7E), "lli>l"}, sample{op(instr.SelectT, 0x70), "rri>r"})
	for i, t := range []string{"i", "l", "r"} {
		l = append(l, sample{op(instr.LocalGet, i), ">" + t}, sample{op(instr.LocalSet, i), t + ">"}, sample{op(instr.LocalTee, i), t + ">" + t})
	}
	for i, t := range []string{"i", "l", "r", "l", "i", "r", "i", "l", "l"} {
		l = append(l, sample{op(instr.GlobalGet, i), ">" + t})
		if slices.Contains([]int{1, 4, 5, 8}, i) {
			l = append(l, sample{op(instr.GlobalSet, i), t + ">"})
		}
	}
	for i, sig := range []string{"i>i", "ilr>rli", ">", "l>r", ">lr", "rr>"} {
		l = append(l, sample{op(instr.Call, i), sig})
	}
	for i, sig := range []string{">", "i>i", "l>r", "ilr>rli", ">lr", "rr>"} {
		l = append(l, sample{op(instr.CallIndirect, i, 0, 1), strings.Replace(sig, ">", "i>", 1)})
	}
	return append(l, sample{op(instr.Unreachable), ">!"}, sample{op(instr.Br), "il>!"}, sample{op(instr.Return), "il>!"}, sample{table(0, 0, 0), "ili>!"}, sample{op(instr.BrIf), "ili>il"})
}

// gives is whole with one more function, of the results "il", that has one local of each type, and a block within it that goes from nothing to what is left, behind which all is dropped.
func gives(left string, l ...api.Instr) api.Module {
	m := whole()
	grow(&m.Types, functype(">"+left))
	return plus(m, ">il", slices.Concat(code(with(instr.OpBlock, len(m.Types)-1, l...)), slices.Repeat(code(op(instr.Drop)), len(left)), consts("il")), 0x7F, 0x7E, 0x70)
}

// outward is an instruction with its labels, if it has any, of the block around.
func outward(in api.Instr) api.Instr {
	switch in.Op {
	case instr.Br, instr.BrIf:
		in.A++
	case instr.BrTable:
		in.A++
		in.N = slices.Clone(in.N)
		for i := range in.N {
			in.N[i]++
		}
	}
	return in
}

// others are the types beside one.
func others(t byte) []string {
	return map[byte][]string{'i': {"l", "r"}, 'l': {"i", "r"}, 'r': {"i", "l"}}[t]
}

// cut is what a sample takes and leaves, and whether it is that nothing goes on.
func (x sample) cut() (string, string, bool) {
	taken, left, _ := strings.Cut(x.sig, ">")
	return taken, strings.Trim(left, "!"), left == "!"
}

// unlessSo is ErrType, unless something holds.
func unlessSo(holds bool) api.Errno {
	if holds {
		return api.OK
	}
	return api.ErrType
}

// 7.2: each instruction with what it takes and leaves, with too few and too many types, and with one of another type.
func TestSamples(t *testing.T) {
	for _, x := range samples() {
		taken, left, never := x.cut()
		in := outward(x.in)
		ask := func(given, left string, e api.Errno) {
			t.Helper()
			checks(t, gives(left, append(consts(given), in)...), e, x.sig, in, given, left)
		}
		ask(taken, left, api.OK)
		for i := range taken {
			ask(taken[:i]+taken[i+1:], left, api.ErrType)
			ask(taken[:i], left, api.ErrType)
			ask(taken[i+1:], left, api.ErrType)
			for _, other := range others(taken[i]) {
				ask(taken[:i]+other+taken[i+1:], left, unlessSo(in.Op == instr.Drop))
			}
		}
		for _, more := range []string{"i", "l", "r"} {
			ask(more+taken, more+left, api.OK)
			ask(more+taken, left, unlessSo(never))
			ask(taken, more+left, unlessSo(never))
			ask(taken, left+more, unlessSo(never))
			ask(taken+more, left, unlessSo(in.Op == instr.Unreachable))
		}
		for i := range left {
			ask(taken, left[:i]+left[i+1:], api.ErrType)
			for _, other := range others(left[i]) {
				ask(taken, left[:i]+other+left[i+1:], api.ErrType)
			}
		}
	}
}

// 7.2: each instruction behind one from which nothing goes on: with all, or the last ones, of what it takes, and with one of another type; what it leaves there is of its type.
func TestSamplesNever(t *testing.T) {
	stops := [][]api.Instr{code(op(instr.Unreachable)), code(c32, c64, op(instr.Return)), code(c64, c32, c64, op(instr.Br, 1)), code(c32, c64, c32, table(1, 1)), code(null, null, op(instr.Unreachable)), code(op(instr.Unreachable), op(instr.Unreachable))}
	for _, x := range samples() {
		taken, left, never := x.cut()
		in := outward(x.in)
		ask := func(given, left string, e api.Errno) {
			t.Helper()
			for _, stop := range stops {
				checks(t, gives(left, slices.Concat(stop, consts(given), code(in))...), e, x.sig, in, given, left, stop)
			}
		}
		for i := range len(taken) + 1 {
			ask(taken[i:], left, api.OK)
			ask(taken[i:], "r"+left, api.OK)
			ask(taken[i:], "rrrllliii"+left, api.OK)
			if left != "" {
				ask(taken[i:], left[:len(left)-1], api.ErrType)
			}
		}
		for i := range taken {
			for _, other := range others(taken[i]) {
				ask(other+taken[i+1:], left, unlessSo(in.Op == instr.Drop))
			}
		}
		for _, more := range []string{"i", "l", "r"} {
			ask(more+taken, more+left, api.OK)
			ask(more+taken, left, unlessSo(never))
		}
		for i := range left {
			for _, other := range others(left[i]) {
				ask(taken, left[:i]+other+left[i+1:], api.ErrType)
				// A Select of two that are not there leaves one that may be of any kind.
				ask("", left[:i]+other+left[i+1:], unlessSo(in.Op == instr.Select))
			}
		}
	}
}

// judged is a code in whole, in a function of a type with one local of each type beside its arguments, and what is told.
type judged struct {
	sig string
	e   api.Errno
	l   []api.Instr
}

func judge(t *testing.T, l []judged) {
	t.Helper()
	for i, x := range l {
		checks(t, plus(whole(), x.sig, x.l, 0x7F, 0x7E, 0x70), x.e, i)
	}
}

const none = api.BlockNone

// The opcodes of a comparison with 0, of 32 and of 64 bits, of a sum of 32 bits.
const (
	eqz32 = 0x45
	eqz64 = 0x50
	add32 = 0x6A
)

// 7.2: the chapter's examples.
func TestExamples(t *testing.T) {
	for _, x := range []judged{
		{"i>i", api.OK, code(op(instr.LocalGet))}, {"i>i", api.ErrType, code(op(instr.LocalGet), op(instr.LocalGet))}, {"i>i", api.ErrIndex, code(op(instr.LocalGet, 1))}, {"i>i", api.OK, code(op(instr.Unreachable), op(instr.Drop), op(instr.Br))},
	} {
		checks(t, function(x.sig, x.l), x.e, x.l)
	}
}

// 7.2: a function's end has just its results.
func TestEnds(t *testing.T) {
	judge(t, []judged{
		{">", api.OK, nil}, {">i", api.ErrType, nil}, {">i", api.OK, code(c32)}, {">", api.ErrType, code(c32)}, {">l", api.ErrType, code(c32)}, {">il", api.OK, code(c32, c64)}, {">il", api.ErrType, code(c64, c32)}, {">il", api.ErrType, code(c64)}, {">il", api.ErrType, code(null, c32, c64)},
		// Arguments are locals, and stand on no stack.
		{"i>i", api.ErrType, nil}, {"i>", api.ErrType, code(op(instr.Drop))}, {"ir>ri", api.OK, code(op(instr.LocalGet, 1), op(instr.LocalGet, 0))},
		// Behind Return and jumps to the function there is what is needed, of what kind ever.
		{">ilr", api.OK, code(op(instr.Unreachable))}, {">i", api.OK, code(c32, op(instr.Return))}, {">i", api.OK, code(c64, c32, op(instr.Return))}, {">i", api.ErrType, code(c64, op(instr.Return))}, {">i", api.ErrType, code(op(instr.Return))}, {">", api.OK, code(c64, op(instr.Return))}, {">i", api.OK, code(c32, op(instr.Br))}, {">i", api.ErrType, code(c64, op(instr.Br))}, {">", api.OK, code(op(instr.Br), op(instr.Br), op(instr.Return))},
		{">i", api.OK, code(op(instr.Unreachable), c32)}, {">i", api.ErrType, code(op(instr.Unreachable), c64)}, {">i", api.ErrType, code(op(instr.Unreachable), c32, c32)}, {">i", api.ErrType, code(op(instr.Unreachable), c64, c32)}, {">", api.ErrType, code(op(instr.Unreachable), c32)}, {">li", api.OK, code(op(instr.Unreachable), c32)}, {">li", api.ErrType, code(op(instr.Unreachable), null, c32)},
		{">", api.OK, code(op(instr.Unreachable), op(instr.Drop), op(instr.Drop), op(instr.Drop))}, {">i", api.OK, code(op(instr.Unreachable), op(add32))}, {">l", api.ErrType, code(op(instr.Unreachable), op(add32))}, {">i", api.ErrType, code(op(instr.Unreachable), c64, op(add32))}, {">i", api.ErrType, code(op(instr.Unreachable), c64, c32, op(add32))},
		// What stood there ahead is gone.
		{">", api.OK, code(c32, c64, null, op(instr.Unreachable))}, {">i", api.OK, code(c64, op(instr.Unreachable), c32)}, {">i", api.OK, code(c64, op(instr.Unreachable), op(add32))}, {">i", api.OK, code(c64, c64, op(instr.Unreachable), op(instr.Drop), op(instr.Drop), op(instr.Drop), c32)},
	})
}

// 7.2: Select of two of a kind that is not FuncRef, where some of them, or none, stand there.
func TestSelect(t *testing.T) {
	u, s := op(instr.Unreachable), op(instr.Select)
	judge(t, []judged{
		{">i", api.OK, code(c32, c32, c32, s)}, {">l", api.OK, code(c64, c64, c32, s)}, {">r", api.ErrType, code(null, null, c32, s)}, {">i", api.ErrType, code(c32, c64, c32, s)}, {">i", api.ErrType, code(c64, c32, c32, s)}, {">i", api.ErrType, code(c32, c32, c64, s)}, {">l", api.ErrType, code(c64, c64, c64, s)}, {">i", api.ErrType, code(c32, c32, s)}, {">i", api.ErrType, code(c32, s)}, {">i", api.ErrType, code(s)}, {">r", api.ErrType, code(null, null, null, s)}, {">i", api.ErrType, code(c32, null, c32, s)}, {">i", api.ErrType, code(null, c32, c32, s)},
		{">i", api.OK, code(u, s)}, {">l", api.OK, code(u, s)}, {">", api.ErrType, code(u, s)}, {">", api.OK, code(u, s, op(instr.Drop))}, {">i", api.OK, code(u, c32, s)}, {">l", api.OK, code(u, c32, s)}, {">l", api.ErrType, code(u, c64, s)}, {">i", api.ErrType, code(u, null, s)},
		{">i", api.OK, code(u, c32, c32, s)}, {">l", api.OK, code(u, c64, c32, s)}, {">l", api.ErrType, code(u, c32, c32, s)}, {">i", api.ErrType, code(u, c64, c32, s)}, {">r", api.ErrType, code(u, null, c32, s)}, {">i", api.ErrType, code(u, null, c32, s)}, {">i", api.ErrType, code(u, c64, c32, c32, s)}, {">r", api.ErrType, code(u, null, null, c32, s)}, {">i", api.ErrType, code(u, null, c32, c32, s)},
		// What it leaves there may be taken as either kind, once it is two of them, too.
		{">i", api.OK, code(u, s, op(eqz32))}, {">i", api.OK, code(u, s, op(eqz64))}, {">l", api.ErrType, code(u, s, op(eqz64))}, {">i", api.OK, code(u, s, c32, c32, s)}, {">l", api.ErrType, code(u, s, c32, c32, s)}, {">l", api.OK, code(u, s, c64, c32, s)}, {">i", api.OK, code(u, s, s)}, {">l", api.OK, code(u, s, s, s)}, {">il", api.OK, code(u, s, c64)}, {">i", api.ErrType, code(u, s, c64, c32, s, op(eqz32))}, {">i", api.OK, code(u, s, c64, c32, s, op(eqz64))}, {">i", api.ErrType, code(u, s, null, c32, s)},
		// With a type that is named they may be references.
		{">r", api.OK, code(u, op(instr.SelectT, 0x70))}, {">i", api.ErrType, code(u, op(instr.SelectT, 0x70))}, {">r", api.OK, code(u, c32, op(instr.SelectT, 0x70))}, {">r", api.ErrType, code(u, c32, c32, op(instr.SelectT, 0x70))},
	})
}

// amid is an instruction in whole, with one more function and one more type, behind one from which nothing goes on, within a block.
func amid(in api.Instr) api.Module {
	return plus(whole(), ">", code(with(instr.OpBlock, none, op(instr.Unreachable), in, op(instr.Unreachable))), 0x7F, 0x7E, 0x70)
}

// alone is an instruction for which nothing is there, and one behind it that is at fault.
func alone(in api.Instr) api.Module {
	return plus(whole(), ">", code(with(instr.OpBlock, none, in, op(0x28, 0, 9))), 0x7F, 0x7E, 0x70)
}

// places asks about an instruction with one of its indices, that is put there, at each of so many things, and beyond.
func places(t *testing.T, many int, put func(i int) api.Instr) {
	t.Helper()
	for i := range many {
		want := api.OK
		if in := put(i); in.Op == instr.GlobalSet && slices.Contains([]int{0, 2, 3, 6, 7}, i) {
			want = api.ErrConst
		}
		checks(t, amid(put(i)), want, put(i))
	}
	for _, i := range []int{many, many + 1, 1 << 31, 1<<32 - 1} {
		checks(t, amid(put(i)), api.ErrIndex, put(i))
		checks(t, alone(put(i)), api.ErrIndex, put(i))
	}
}

// 7.2: each index of each instruction at the last thing and one beyond.
func TestIndices(t *testing.T) {
	many := map[int]int{instr.Br: 2, instr.BrIf: 2, instr.Call: 7, instr.RefFunc: 7, instr.LocalGet: 3, instr.LocalSet: 3, instr.LocalTee: 3, instr.GlobalGet: 9, instr.GlobalSet: 9}
	spaces := map[int]int{instr.MemorySize: 3, instr.MemoryGrow: 3, instr.MemoryFill: 3, instr.MemoryCopy: 3, instr.TableGet: 2, instr.TableSet: 2, instr.TableGrow: 2, instr.TableSize: 2, instr.TableFill: 2, instr.TableCopy: 2}
	asked := 0
	for _, o := range opcodes {
		asked++
		switch shape, _ := instr.Shape(o); shape {
		case instr.Index:
			places(t, many[o], func(i int) api.Instr { return op(o, i) })
		case instr.Labels:
			places(t, 2, func(i int) api.Instr { return table(i) })
			places(t, 2, func(i int) api.Instr { return table(i, 0, 1) })
			places(t, 2, func(i int) api.Instr { return table(0, i) })
			places(t, 2, func(i int) api.Instr { return table(1, i, 0) })
			places(t, 2, func(i int) api.Instr { return table(1, 0, 1, i) })
			places(t, 2, func(i int) api.Instr { return table(i, i) })
		case instr.Indir:
			places(t, 7, func(i int) api.Instr { return op(o, i) })
			places(t, 2, func(i int) api.Instr { return op(o, 3, 0, i) })
		case instr.Place:
			places(t, 3, func(i int) api.Instr { return op(o, 1000, 0, i) })
		case instr.Space:
			places(t, spaces[o], func(i int) api.Instr { return op(o, 0, 0, i) })
		case instr.Spaces:
			places(t, spaces[o], func(i int) api.Instr { return op(o, i) })
			places(t, spaces[o], func(i int) api.Instr { return op(o, 0, 0, i) })
			places(t, spaces[o], func(i int) api.Instr { return op(o, i, 0, 1) })
		default:
			asked--
		}
	}
	if asked != 40 {
		t.Error(asked)
	}
	stop := code(op(instr.Unreachable))
	places(t, 7, func(i int) api.Instr { return with(instr.OpBlock, i, stop...) })
	places(t, 7, func(i int) api.Instr { return with(instr.Loop, i, stop...) })
	places(t, 7, func(i int) api.Instr { return either(i, stop, stop) })
}

// 7.2: instructions that name something of which there is nothing.
func TestIndicesNone(t *testing.T) {
	for _, in := range []api.Instr{op(instr.LocalGet), op(instr.LocalSet), op(instr.LocalTee), op(instr.GlobalGet), op(instr.GlobalSet), op(instr.CallIndirect), op(instr.TableGet), op(instr.TableSet), op(instr.TableSize), op(instr.TableGrow), op(instr.TableFill), op(instr.TableCopy), op(instr.MemorySize), op(instr.MemoryGrow), op(instr.MemoryFill), op(instr.MemoryCopy), op(0x28), op(0x3E), op(instr.Call, 1), op(instr.RefFunc, 1), op(instr.Br, 1), op(instr.BrIf, 1), table(1), table(0, 1)} {
		checks(t, function(">", code(op(instr.Unreachable), in)), api.ErrIndex, in)
		checks(t, function(">", code(in)), api.ErrIndex, in)
	}
	// A table is no memory, a memory no table; of two that are named each is looked at.
	lim := api.Limits{Min: 1, Max: -1}
	for _, x := range []struct {
		mems, tables int
		in           api.Instr
		e            api.Errno
	}{
		{1, 0, op(instr.MemoryCopy), api.OK}, {1, 0, op(instr.MemoryCopy, 1), api.ErrIndex}, {1, 0, op(instr.MemoryCopy, 0, 0, 1), api.ErrIndex}, {2, 0, op(instr.MemoryCopy, 1, 0, 1), api.OK}, {0, 2, op(instr.MemoryCopy), api.ErrIndex}, {0, 1, op(instr.TableCopy), api.OK}, {0, 1, op(instr.TableCopy, 1), api.ErrIndex}, {0, 1, op(instr.TableCopy, 0, 0, 1), api.ErrIndex}, {2, 0, op(instr.TableCopy), api.ErrIndex},
		{1, 0, op(instr.TableSize), api.ErrIndex}, {0, 1, op(instr.MemorySize), api.ErrIndex}, {0, 1, op(instr.MemoryFill), api.ErrIndex}, {1, 0, op(instr.TableFill), api.ErrIndex}, {1, 2, op(instr.TableGet, 0, 0, 1), api.OK}, {2, 1, op(instr.TableGet, 0, 0, 1), api.ErrIndex}, {1, 2, op(0x28, 0, 0, 1), api.ErrIndex}, {2, 1, op(0x28, 0, 0, 1), api.OK}, {1, 0, op(instr.CallIndirect), api.ErrIndex}, {0, 1, op(instr.CallIndirect), api.OK}, {0, 1, op(instr.CallIndirect, 1), api.ErrIndex}, {0, 1, op(instr.CallIndirect, 0, 0, 1), api.ErrIndex},
	} {
		m := function(">", code(op(instr.Unreachable), x.in, op(instr.Unreachable)))
		m.Mems, m.Tables = slices.Repeat([]api.Limits{lim}, x.mems), slices.Repeat([]api.Limits{lim}, x.tables)
		checks(t, m, x.e, x)
	}
}

// 7.2: alignments at what is loaded, or stored, and beyond; what is told ahead of, and behind, that.
func TestAligns(t *testing.T) {
	n := 0
	for _, r := range sigRows() {
		for o := r.from; o <= r.to && r.bytes > 0; o++ {
			n++
			taken, left, _ := strings.Cut(r.sig, ">")
			for b := range 64 {
				want := api.OK
				if b > 3 || 1<<b > r.bytes {
					want = api.ErrAlign
				}
				l := append(consts(taken), op(o, 1<<32-1, b, b%3))
				checks(t, gives(left, l...), want, o, b)
				checks(t, gives("", op(instr.Unreachable), op(o, 0, b), op(instr.Unreachable)), want, o, b)
				checks(t, gives("", op(o, 0, b, 3)), api.ErrIndex, o, b)
				if want == api.OK {
					want = api.ErrType
				}
				checks(t, gives("", op(o, 0, b)), want, o, b)
				checks(t, gives("", null, null, op(o, 0, b)), want, o, b)
			}
		}
	}
	if n != 19 {
		t.Error(n)
	}
}

// 7.2: of a global the index is told first, then that it may not be set, then its type.
func TestGlobals(t *testing.T) {
	set := func(i int) api.Instr { return op(instr.GlobalSet, i) }
	judge(t, []judged{
		{">", api.OK, code(c64, set(1))}, {">", api.ErrType, code(c32, set(1))}, {">", api.ErrType, code(set(1))}, {">", api.ErrConst, code(set(0))}, {">", api.ErrConst, code(c32, set(0))}, {">", api.ErrConst, code(null, set(0))}, {">", api.ErrConst, code(null, set(2))}, {">", api.ErrConst, code(c64, set(3))}, {">", api.OK, code(c32, set(4))}, {">", api.OK, code(null, set(5))}, {">", api.ErrConst, code(c32, set(6))}, {">", api.ErrConst, code(c64, set(7))}, {">", api.OK, code(c64, set(8))}, {">", api.ErrIndex, code(set(9))}, {">", api.ErrConst, code(op(instr.Unreachable), set(0))}, {">", api.ErrConst, code(op(instr.Unreachable), set(6))},
		{">", api.ErrType, code(op(instr.Drop), set(0))}, {">", api.ErrConst, code(set(0), op(instr.Drop))},
	})
}

// 7.2: the first fault of a code, instruction by instruction, those within a block ahead of what is behind it.
func TestFirst(t *testing.T) {
	faults := []judged{
		{">", api.ErrIndex, code(op(instr.LocalGet, 99))}, {">", api.ErrType, code(op(instr.Drop))}, {">", api.ErrAlign, code(op(0x2C, 0, 1))}, {">", api.ErrConst, code(op(instr.GlobalSet))}, {">", api.ErrIndex, code(with(instr.OpBlock, 99, op(instr.Drop)))}, {">", api.ErrType, code(with(instr.If, none, op(0x2C, 0, 1)))}, {">", api.ErrType, code(with(instr.OpBlock, none, c32))}, {">", api.ErrType, code(with(instr.OpBlock, api.BlockI32))}, {">", api.ErrType, code(c32, with(instr.If, api.BlockI32, c32))}, {">", api.ErrAlign, code(c32, either(none, code(op(0x2C, 0, 1)), code(op(instr.Drop))))}, {">", api.ErrConst, code(c32, either(none, nil, code(op(instr.GlobalSet))))}, {">", api.ErrAlign, code(with(instr.Loop, none, op(0x2C, 0, 1)))}, {">", api.ErrConst, code(with(instr.OpBlock, none, with(instr.Loop, none, op(instr.GlobalSet))))}, {">", api.ErrIndex, code(op(instr.Br, 99))}, {">", api.ErrIndex, code(table(99, 0))},
	}
	var l []judged
	for _, x := range faults {
		l = append(l, x)
		l = append(l, judged{">i", x.e, x.l}, judged{">", x.e, code(with(instr.OpBlock, none, x.l...))}, judged{">", x.e, append(code(op(instr.Nop), c32, op(instr.Drop)), x.l...)})
		for _, y := range faults {
			l = append(l, judged{">", x.e, slices.Concat(x.l, y.l)}, judged{">", x.e, append(code(with(instr.OpBlock, none, x.l...)), y.l...)}, judged{">", x.e, append(x.l[:len(x.l):len(x.l)], with(instr.OpBlock, none, y.l...))}, judged{">", x.e, code(c32, either(none, x.l, y.l))}, judged{">", x.e, code(with(instr.OpBlock, api.BlockI32, append(code(with(instr.Loop, none, x.l...)), y.l...)...))})
		}
	}
	// A block's end stands behind what is within it, and ahead of what is behind it; of an If the one part ahead of the other.
	l = append(l, []judged{
		{">", api.ErrType, code(with(instr.OpBlock, api.BlockI32), op(instr.LocalGet, 99))}, {">", api.ErrIndex, code(with(instr.OpBlock, api.BlockI32, op(instr.LocalGet, 99)))}, {">", api.ErrType, code(c32, either(none, code(c32), code(op(instr.LocalGet, 99))))}, {">", api.ErrIndex, code(c32, either(none, code(op(instr.LocalGet, 99)), code(c32)))}, {">i", api.ErrIndex, code(op(instr.LocalGet, 99))}, {">", api.ErrType, code(with(instr.If, none, op(instr.LocalGet, 99)))}, {">", api.ErrIndex, code(with(instr.If, 6+50, op(instr.LocalGet, 0)))}, {">", api.ErrIndex, code(c32, with(instr.If, api.BlockI32, op(instr.LocalGet, 99)))}, {">", api.ErrType, code(with(instr.OpBlock, 1, op(instr.LocalGet, 99)))}, {">", api.ErrIndex, code(c32, with(instr.OpBlock, 1, op(instr.LocalGet, 99)))},
		// All indices of an instruction are told ahead of its types.
		{">", api.ErrIndex, code(table(0, 0, 0, 99))}, {">", api.ErrIndex, code(null, table(99, 0))}, {">", api.ErrIndex, code(op(instr.CallIndirect, 99))}, {">", api.ErrIndex, code(op(instr.CallIndirect, 0, 0, 99))}, {">", api.ErrIndex, code(op(instr.MemoryCopy, 99))}, {">", api.ErrIndex, code(op(instr.TableCopy, 0, 0, 99))}, {">i", api.ErrIndex, code(c64, c32, with(instr.OpBlock, none, c32, table(0, 1, 99)))}, {">i", api.ErrType, code(c64, c32, with(instr.OpBlock, none, c32, table(0, 1, 1)))},
	}...)
	judge(t, l)
}
