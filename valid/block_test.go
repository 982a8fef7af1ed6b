package valid

import (
	"slices"
	"strings"
	"testing"

	"scarf/api"
	"scarf/instr"
)

// blockType is one of the types of blocks in whole, with what it takes and leaves.
type blockType struct {
	a   int
	sig string
}

func blockTypes() []blockType {
	l := []blockType{{api.BlockNone, ">"}, {api.BlockI32, ">i"}, {api.BlockI64, ">l"}, {api.BlockRef, ">r"}}
	for i, f := range whole().Types {
		l = append(l, blockType{i, letters(f.P) + ">" + letters(f.R)})
	}
	return l
}

// drops is so many Drops.
func drops(n int) []api.Instr { return slices.Repeat(code(op(instr.Drop)), n) }

// kinds are the ways in which code may stand within a block of a type: what else a block takes, and the block. The last two are an If's parts, beside another one that is as it should be.
func kinds(a int, sound, l []api.Instr) map[string]api.Instr {
	return map[string]api.Instr{
		">block": with(instr.OpBlock, a, l...), ">loop": with(instr.Loop, a, l...), "i>then": either(a, l, sound), "i>else": either(a, sound, l), "i>both": either(a, l, l),
	}
}

// 7.2: blocks of each type, with their arguments and results, and with others.
func TestBlocks(t *testing.T) {
	for _, x := range blockTypes() {
		taken, left, _ := strings.Cut(x.sig, ">")
		sound := slices.Concat(drops(len(taken)), consts(left))
		// within asks about a block in which this stands, that gets and leaves what it should.
		within := func(e api.Errno, l ...api.Instr) {
			t.Helper()
			for name, b := range kinds(x.a, sound, l) {
				more, _, _ := strings.Cut(name, ">")
				for _, below := range []string{"", "r", "lil"} {
					checks(t, plus(whole(), ">"+below+left, append(consts(below+taken+more), b)), e, x, name, below)
				}
				checks(t, plus(whole(), ">"+left, append(code(op(instr.Unreachable)), b)), e, x, name)
				checks(t, plus(whole(), ">"+left, slices.Concat(code(op(instr.Unreachable)), consts(taken+more), code(b))), e, x, name)
			}
		}
		within(api.OK, sound...)
		within(api.OK, op(instr.Unreachable))
		within(api.OK, append(code(op(instr.Unreachable)), consts(left)...)...)
		within(api.OK, append(consts("rli"), op(instr.Unreachable))...)
		within(unlessSo(taken == left))
		within(api.ErrType, append(drops(len(taken)+1), consts(left)...)...)
		within(api.ErrType, append(drops(len(taken)), consts("i"+left)...)...)
		within(api.ErrType, append(drops(len(taken)), consts(left+"i")...)...)
		within(api.ErrType, append(code(op(instr.Unreachable)), consts("i"+left)...)...)
		within(unlessSo(left == ""), drops(len(taken))...)
		for i := range left {
			within(api.ErrType, append(drops(len(taken)), consts(left[:i]+left[i+1:])...)...)
			within(api.OK, append(code(op(instr.Unreachable)), consts(left[i:])...)...)
			for _, other := range others(left[i]) {
				within(api.ErrType, append(drops(len(taken)), consts(left[:i]+other+left[i+1:])...)...)
				within(api.ErrType, append(code(op(instr.Unreachable)), consts(other+left[i+1:])...)...)
			}
		}
		for name, b := range kinds(x.a, sound, sound) {
			more, _, _ := strings.Cut(name, ">")
			blockTakes(t, b, taken+more, left)
		}
	}
}

// blockTakes asks about a block that is sound, with other types ahead of it, and behind it.
func blockTakes(t *testing.T, b api.Instr, taken, left string) {
	t.Helper()
	ask := func(given, got string, e api.Errno) {
		t.Helper()
		checks(t, plus(whole(), ">"+got, append(consts(given), b)), e, b.Op, b.A, given, got)
	}
	ask(taken, left, api.OK)
	ask("r"+taken, "r"+left, api.OK)
	ask("r"+taken, left, api.ErrType)
	ask(taken, "r"+left, api.ErrType)
	ask(taken, left+"i", api.ErrType)
	for i := range taken {
		ask(taken[:i]+taken[i+1:], left, api.ErrType)
		ask(taken[i+1:], left, api.ErrType)
		for _, other := range others(taken[i]) {
			ask(taken[:i]+other+taken[i+1:], left, api.ErrType)
			checks(t, plus(whole(), ">"+left, slices.Concat(code(op(instr.Unreachable)), consts(other+taken[i+1:]), code(b))), api.ErrType, b, other)
		}
	}
	for i := range left {
		ask(taken, left[:i]+left[i+1:], api.ErrType)
		for _, other := range others(left[i]) {
			ask(taken, left[:i]+other+left[i+1:], api.ErrType)
			// What a block leaves is of its type, behind what ever it stands.
			checks(t, plus(whole(), ">"+left[:i]+other+left[i+1:], code(op(instr.Unreachable), b)), api.ErrType, b, other)
		}
	}
}

// 7.2: an If without an Else leaves its arguments.
func TestNoElse(t *testing.T) {
	for _, x := range blockTypes() {
		taken, left, _ := strings.Cut(x.sig, ">")
		for _, l := range [][]api.Instr{slices.Concat(drops(len(taken)), consts(left)), code(op(instr.Unreachable)), append(consts(left), op(instr.Br))} {
			m := plus(whole(), ">"+left, append(consts(taken+"i"), either(x.a, l, nil)))
			checks(t, m, unlessSo(taken == left), x)
			checks(t, plus(whole(), ">"+left, append(consts(taken+"i"), api.Instr{Op: instr.If, A: x.a, L: l, E: []api.Instr{}})), unlessSo(taken == left), x)
			checks(t, plus(whole(), ">"+left, append(consts(taken+"i"), either(x.a, l, l))), api.OK, x)
		}
	}
	// Without anything in either part.
	judge(t, []judged{{">", api.OK, code(c32, with(instr.If, none))}, {">i", api.OK, code(c64, op(0xA7), c32, with(instr.If, 1))}, {">i", api.ErrType, code(c32, with(instr.If, 1))}, {">i", api.ErrType, code(c32, with(instr.If, api.BlockI32))}, {">i", api.ErrType, code(c32, either(api.BlockI32, nil, code(c32)))}, {">i", api.OK, code(c32, either(api.BlockI32, code(c32), code(c32)))}, {">", api.ErrType, code(c64, with(instr.If, none))}, {">", api.ErrType, code(with(instr.If, none))}, {">", api.OK, code(op(instr.Unreachable), with(instr.If, none))}})
}

// 7.2: a block has nothing of what stands below its arguments, and behind it there is what stood there.
func TestBlockBase(t *testing.T) {
	judge(t, []judged{
		{">", api.ErrType, code(c32, with(instr.OpBlock, none, op(instr.Drop)))}, {">i", api.ErrType, code(c32, with(instr.OpBlock, api.BlockI32))}, {">i", api.ErrType, code(c32, with(instr.OpBlock, api.BlockI32, op(eqz32)))}, {">i", api.OK, code(c32, with(instr.OpBlock, 1, op(eqz32)))}, {">i", api.ErrType, code(c32, c32, with(instr.OpBlock, 1, op(add32)))}, {">ii", api.OK, code(c32, c32, with(instr.OpBlock, 1))},
		{">li", api.OK, code(c64, with(instr.OpBlock, api.BlockI32, c32))}, {">i", api.OK, code(c64, with(instr.OpBlock, api.BlockI32, c32), op(instr.LocalSet), op(0xA7))},
		// What goes on in a block no more goes on behind it.
		{">i", api.OK, code(c32, with(instr.OpBlock, none, op(instr.Unreachable)))}, {">", api.ErrType, code(with(instr.OpBlock, none, op(instr.Unreachable)), op(instr.Drop))}, {">", api.ErrType, code(c32, with(instr.OpBlock, none, op(instr.Unreachable)))}, {">i", api.ErrType, code(with(instr.OpBlock, none, op(instr.Unreachable)))}, {">i", api.ErrType, code(with(instr.OpBlock, none, op(instr.Return)))}, {">i", api.ErrType, code(with(instr.OpBlock, api.BlockI64, op(instr.Unreachable)))}, {">i", api.ErrType, code(with(instr.Loop, none, op(instr.Br)))}, {">i", api.OK, code(with(instr.Loop, api.BlockI32, op(instr.Br)))}, {">", api.ErrType, code(c32, either(none, code(op(instr.Unreachable)), code(op(instr.Unreachable))), op(instr.Drop))}, {">", api.ErrType, code(c32, either(none, code(op(instr.Unreachable)), code(op(instr.Drop))))}, {">", api.ErrType, code(c32, either(none, code(op(instr.Drop)), code(op(instr.Unreachable))))},
		// In a block behind such an instruction there is nothing of its kind.
		{">", api.ErrType, code(op(instr.Unreachable), with(instr.OpBlock, none, op(instr.Drop)))}, {">", api.ErrType, code(op(instr.Unreachable), with(instr.OpBlock, api.BlockI32), op(instr.Drop))}, {">i", api.OK, code(op(instr.Unreachable), with(instr.OpBlock, 1, op(eqz32)))}, {">", api.OK, code(op(instr.Unreachable), with(instr.OpBlock, none), op(instr.Drop))}, {">", api.ErrType, code(op(instr.Unreachable), with(instr.OpBlock, none, c32), op(instr.Drop))},
	})
}

// nested is code within so many blocks that leave nothing, of three kinds by turns; behind it nothing goes on in the innermost one.
func nested(deep int, l []api.Instr) []api.Instr {
	for i := range deep {
		switch i % 3 {
		case 0:
			l = code(with(instr.OpBlock, none, l...))
		case 1:
			l = code(c32, with(instr.If, none, l...))
		case 2:
			l = code(c32, either(none, code(op(instr.Nop)), l))
		}
	}
	return l
}

// 7.2: labels at each depth: the last one is the function's code, beyond it there is none.
func TestDepths(t *testing.T) {
	for deep := range 33 {
		for n := range 35 {
			want := api.OK
			if n > deep {
				want = api.ErrIndex
			}
			for _, l := range [][]api.Instr{code(op(instr.Br, n)), code(c32, op(instr.BrIf, n)), code(c32, table(n)), code(c32, table(0, n)), code(c32, table(n, n, 0, deep)), code(op(instr.Unreachable), op(instr.BrIf, n))} {
				checks(t, plus(whole(), ">", nested(deep, l)), want, deep, n, l)
			}
			// A label of a block takes nothing, the function's takes its result, which stays there behind a BrIf.
			checks(t, plus(whole(), ">l", append(nested(deep, code(c64, c32, op(instr.BrIf, n), op(instr.Drop))), c64)), want, deep, n)
			if n == deep {
				want = api.ErrType
			}
			checks(t, plus(whole(), ">l", append(nested(deep, code(c32, op(instr.BrIf, n))), c64)), want, deep, n)
		}
	}
}

// 7.2: each depth has a type of its own.
func TestDepthTypes(t *testing.T) {
	sigs := []string{"l", "i", "r", "", "li", "i"}
	m := whole()
	first := len(m.Types)
	for _, s := range sigs {
		grow(&m.Types, functype(">"+s))
	}
	for n := range len(sigs) + 1 {
		for _, given := range sigs {
			for _, o := range []int{instr.Br, instr.BrIf, instr.BrTable} {
				l := consts(given)
				if o != instr.Br {
					l = append(l, c32)
				}
				l = append(l, op(o, n), op(instr.Unreachable))
				for i := range sigs {
					l = append(code(with(instr.OpBlock, first+i, l...)), op(instr.Unreachable))
				}
				label := "ir"
				if n < len(sigs) {
					label = sigs[n]
				}
				checks(t, plus(m, ">ir", l), unlessSo(strings.HasSuffix(given, label)), n, given, o)
			}
		}
	}
}

// 7.2: a jump to a Loop takes its arguments, one to another block its results.
func TestLoops(t *testing.T) {
	for _, x := range blockTypes() {
		taken, left, _ := strings.Cut(x.sig, ">")
		for name, b := range map[string]func(l ...api.Instr) api.Instr{
			">block": func(l ...api.Instr) api.Instr { return with(instr.OpBlock, x.a, l...) },
			">loop":  func(l ...api.Instr) api.Instr { return with(instr.Loop, x.a, l...) },
			"i>then": func(l ...api.Instr) api.Instr { return either(x.a, l, code(op(instr.Unreachable))) },
			"i>else": func(l ...api.Instr) api.Instr { return either(x.a, code(op(instr.Unreachable)), l) },
		} {
			label := left
			if name == ">loop" {
				label = taken
			}
			more, _, _ := strings.Cut(name, ">")
			ask := func(e api.Errno, l ...api.Instr) {
				t.Helper()
				checks(t, plus(whole(), ">"+left, append(consts(taken+more), b(l...))), e, x, name, l)
			}
			for _, given := range []string{taken, left, "", "i", "l", "r", "rli", "ilr", "il", "iilr"} {
				fits := strings.HasSuffix(given, label) || strings.HasSuffix(taken+given, label)
				ask(unlessSo(fits), append(consts(given), op(instr.Br))...)
				ask(unlessSo(fits), append(consts(given+"i"), table(0))...)
				ask(unlessSo(fits), append(consts(given+"i"), table(0, 0, 0))...)
				ask(unlessSo(fits), append(consts(given+"i"), op(instr.BrIf), op(instr.Unreachable))...)
				// Out of a block within it, which has nothing of what stands around.
				within := strings.HasSuffix(given, label)
				ask(unlessSo(within), with(instr.OpBlock, none, append(consts(given), op(instr.Br, 1))...), op(instr.Unreachable))
				ask(unlessSo(within), with(instr.Loop, none, append(consts(given+"i"), op(instr.BrIf, 1), op(instr.Unreachable))...), op(instr.Unreachable))
				ask(unlessSo(within), with(instr.OpBlock, none, append(consts(given+"i"), table(1, 1))...), op(instr.Unreachable))
			}
			// Behind BrIf there stands what the label takes.
			ask(unlessSo(label == left), slices.Concat(drops(len(taken)), consts(label+"i"), code(op(instr.BrIf)))...)
			ask(unlessSo(strings.HasSuffix(left, label)), op(instr.Unreachable), op(instr.BrIf))
			ask(api.OK, slices.Concat(code(op(instr.Unreachable), op(instr.BrIf)), drops(len(label)), consts(left))...)
			ask(api.OK, slices.Concat(code(op(instr.Unreachable), op(instr.BrIf)), drops(len(label)+1), consts(left))...)
		}
	}
}

// 7.2: a table whose labels have other types, or not as many, there and where nothing goes on.
func TestTables(t *testing.T) {
	labels := []string{"", "i", "l", "r", "ii", "il", "ir", "rr"}
	m := whole()
	first := len(m.Types)
	for _, s := range labels {
		grow(&m.Types, functype(">"+s))
	}
	// held is code in a block of one label, in one of another, in a function of results "ll".
	held := func(a, b int, l []api.Instr) api.Module {
		return plus(m, ">ll", code(with(instr.OpBlock, first+b, with(instr.OpBlock, first+a, l...), op(instr.Unreachable)), op(instr.Unreachable)))
	}
	for a, of0 := range labels {
		for b, of1 := range labels {
			many := len(of0) == len(of1)
			for _, given := range append(labels, "ll", "iil", "lii", "rll") {
				for _, ns := range [][]int{{0, 1}, {1, 0}, {0, 0, 1}, {1, 1, 0}, {0, 1, 1}, {1, 0, 0}} {
					in := table(ns[0], ns[1:]...)
					fits := many && strings.HasSuffix(given, of0) && strings.HasSuffix(given, of1)
					checks(t, held(a, b, append(consts(given+"i"), in)), unlessSo(fits), of0, of1, given, ns)
					// Where nothing goes on those that stand there have to be of all labels' types; of the others as many as there have to be.
					checks(t, held(a, b, slices.Concat(code(op(instr.Unreachable)), consts(given+"i"), code(in))), unlessSo(many && fitsNever(given, of0) && fitsNever(given, of1)), of0, of1, given, ns)
				}
				checks(t, held(a, b, append(consts(given+"l"), table(0, 1))), api.ErrType)
				checks(t, held(a, b, append(consts(given+"i"), table(2, 0, 1))), unlessSo(many && len(of0) == 2 && strings.HasSuffix(given, of0) && strings.HasSuffix(given, of1) && strings.HasSuffix(given, "ll")), of0, of1, given)
			}
			for _, l := range [][]api.Instr{code(op(instr.Unreachable)), code(op(instr.Unreachable), c32), code(op(instr.Return))} {
				checks(t, held(a, b, append(slices.Clone(l), table(0, 1))), unlessSo(many && l[0].Op == instr.Unreachable), of0, of1, l)
				checks(t, held(a, b, append(slices.Clone(l), table(0))), unlessSo(l[0].Op == instr.Unreachable), of0, of1, l)
				// A label that has not as many types is told though the others have.
				checks(t, held(a, b, append(slices.Clone(l), table(2, 2, 0, 1))), unlessSo(many && len(of0) == 2 && l[0].Op == instr.Unreachable), of0, of1, l)
			}
		}
	}
	// Two of any kind that a Select left are of both labels' types, once there stand as many.
	for _, left := range []string{"i", "l", "r"} {
		a, b := slices.Index(labels, "i"), slices.Index(labels, left)
		checks(t, held(a, b, code(op(instr.Unreachable), op(instr.Select), c32, table(0, 1))), api.OK, left)
		checks(t, held(a, b, code(op(instr.Unreachable), op(instr.Select), op(instr.LocalTee), c32, table(0, 1))), api.ErrIndex, left)
	}
}

// fitsNever tells whether a label's types may be taken where these stand above any.
func fitsNever(given, label string) bool {
	return strings.HasSuffix(given, label) || strings.HasSuffix(label, given)
}

// 7.2: what CallIndirect and Call take, of functions' types at the edge of MaxArity.
func TestWide(t *testing.T) {
	for _, sig := range []string{strings.Repeat("i", 32) + ">" + strings.Repeat("l", 32), strings.Repeat("lr", 16) + ">", ">" + strings.Repeat("rli", 10)} {
		taken, left, _ := strings.Cut(sig, ">")
		m := whole()
		grow(&m.Types, functype(sig))
		grow(&m.Imports, api.Import{Kind: 0, T: len(m.Types) - 1})
		m.Funcs, m.Codes, m.Start, m.Elems, m.Globals, m.Exports = nil, nil, 0, nil, nil, nil
		for name, in := range map[string]api.Instr{">call": op(instr.Call, 2), "i>indirect": op(instr.CallIndirect, 6), ">block": with(instr.OpBlock, 6, op(instr.Unreachable))} {
			more, _, _ := strings.Cut(name, ">")
			checks(t, plus(m, ">"+left, append(consts(taken+more), in)), api.OK, sig, name)
			if taken != "" {
				checks(t, plus(m, ">"+left, append(consts(taken[1:]+more), in)), api.ErrType, sig, name)
			}
			checks(t, plus(m, ">"+left, append(consts("r"+taken+more), in)), api.ErrType, sig, name)
		}
	}
	checks(t, function(">", code(op(instr.Call))), api.OK)
	checks(t, function("i>", code(op(instr.Call))), api.ErrType)
}
