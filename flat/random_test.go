package flat

import (
	"slices"
	"strings"
	"testing"

	"scarf/api"
	"scarf/instr"
	"scarf/valid"
)

// dice throws numbers, the same ones in each run.
type dice uint64

func (d *dice) throw(n int) int {
	*d = *d*6364136223846793005 + 1442695040888963407
	return int(uint64(*d)>>33) % n
}

func pick[T any](d *dice, l []T) T { return l[d.throw(len(l))] }

// frame is a block: the types of a jump to it, and how long the stack was below it.
type frame struct {
	label string
	base  int
}

// writer writes code that may be run: it goes along with a stack of letters; where nothing goes on there stand more * than could be taken.
type writer struct {
	d      *dice
	m      api.Module
	funcs  []int
	locals string
	stack  string
	frames []frame
}

func (w *writer) base() int          { return w.frames[len(w.frames)-1].base }
func (w *writer) label(n int) string { return w.frames[len(w.frames)-1-n].label }

// pops takes letters from the stack; false: they are not there, and the stack is as it was.
func (w *writer) pops(want string) bool {
	stack := w.stack
	for ; want != ""; want = want[:len(want)-1] {
		top, c := len(stack)-1, want[len(want)-1]
		if top < w.base() || stack[top] != c && stack[top] != '*' && c != '?' {
			return false
		}
		stack = stack[:top]
	}
	w.stack = stack
	return true
}

// goes takes letters, and leaves others.
func (w *writer) goes(taken, left string) bool {
	if !w.pops(taken) {
		return false
	}
	w.stack += left
	return true
}

// stops has nothing go on.
func (w *writer) stops(taken string) bool {
	if !w.pops(taken) {
		return false
	}
	w.stack = w.stack[:w.base()] + strings.Repeat("*", 300)
	return true
}

// dead tells whether nothing goes on where the writer is.
func (w *writer) dead() bool { return strings.Contains(w.stack[w.base():], "*") }

// jump is an instruction that jumps, if it may be.
func (w *writer) jump() (api.Instr, bool) {
	d, n := w.d, w.d.throw(len(w.frames))
	switch d.throw(6) {
	case 0:
		return op(instr.Br, n), w.stops(w.label(n))
	case 1, 2:
		return op(instr.BrIf, n), w.goes(w.label(n)+"i", w.label(n))
	case 3:
		in := table(n)
		for range d.throw(4) {
			if other := d.throw(len(w.frames)); w.label(other) == w.label(n) {
				in.N = append(in.N, other)
			}
		}
		return in, w.stops(w.label(n) + "i")
	case 4:
		return op(instr.Return), d.throw(3) == 0 && w.stops(w.frames[0].label)
	}
	return op(instr.Unreachable), d.throw(5) == 0 && w.stops("")
}

// named is an instruction that names a thing, if it may be.
func (w *writer) named() (api.Instr, bool) {
	d := w.d
	n := d.throw(len(w.locals))
	local := w.locals[n : n+1]
	f, typ := d.throw(len(w.funcs)), d.throw(len(w.m.Types))
	of := func(t int) (string, string) { return letters(w.m.Types[t].P), letters(w.m.Types[t].R) }
	switch d.throw(10) {
	case 0, 1, 2:
		return op(instr.LocalGet, n), w.goes("", local)
	case 3:
		return op(instr.LocalSet, n), w.goes(local, "")
	case 4:
		return op(instr.LocalTee, n), w.goes(local, local)
	case 5:
		taken, left := of(w.funcs[f])
		return op(instr.Call, f), w.goes(taken, left)
	case 6:
		taken, left := of(typ)
		return op(instr.CallIndirect, typ, 0, d.throw(2)), w.goes(taken+"i", left)
	case 7:
		return op(instr.Drop), w.goes("?", "")
	case 8:
		c := pick(d, []string{"i", "l", "r"})
		return op(instr.SelectT, types(c)[0]), w.goes(c+c+"i", c)
	}
	c := pick(d, []string{"i", "l"})
	return op(instr.Select), w.goes(c+c+"i", c)
}

// rowed is an instruction that has a row, if it may be.
func (w *writer) rowed() (api.Instr, bool) {
	d := w.d
	o := pick(d, opcodes)
	if d.throw(2) == 0 {
		o = pick(d, []int{0x41, 0x41, 0x42, 0xD0, 0xA7, 0xAC, 0xD1})
	}
	in := op(o)
	shape, _ := instr.Shape(o)
	switch shape {
	case instr.Const:
		in.A = d.throw(5)
	case instr.Place:
		in.A, in.M = d.throw(9), d.throw(2)
	case instr.Space:
		in.M = d.throw(2)
	case instr.Spaces:
		in.A, in.M = d.throw(2), d.throw(2)
	}
	taken, left, _ := strings.Cut(sigOf[o], ">")
	return in, w.goes(taken, left)
}

// opcodes are those that have rows, in order.
var opcodes = func() []int {
	var l []int
	for o := range sigOf {
		l = append(l, o)
	}
	slices.Sort(l)
	return l
}()

// list writes so many instructions, and what is needed behind them to end with these types.
func (w *writer) list(many int, left string) []api.Instr {
	var l []api.Instr
	for range many {
		in, ok := op(instr.Nop), w.d.throw(10) == 0
		if !ok && w.d.throw(4) == 0 && len(w.frames) < 6 {
			in, ok = w.block(many/2 + 1)
		}
		for tries := 0; !ok && tries < 20; tries++ {
			in, ok = pick(w.d, []func() (api.Instr, bool){w.jump, w.named, w.rowed, w.rowed})()
		}
		if ok {
			l = append(l, in)
		}
	}
	for strings.Trim(w.stack[w.base():], "*") != "" {
		w.pops("?")
		l = append(l, op(instr.Drop))
	}
	if w.dead() && w.d.throw(3) > 0 {
		return l
	}
	return append(l, consts(left)...)
}

// block writes a block, if its arguments are there.
func (w *writer) block(many int) (api.Instr, bool) {
	d := w.d
	in := with(pick(d, []int{instr.OpBlock, instr.Loop, instr.If}), pick(d, []int{-64, -1, -2, -16, d.throw(len(w.m.Types)), d.throw(len(w.m.Types))}))
	taken, left := "", map[int]string{-1: "i", -2: "l", -16: "r"}[in.A]
	if in.A >= 0 {
		taken, left = letters(w.m.Types[in.A].P), letters(w.m.Types[in.A].R)
	}
	label := left
	if in.Op == instr.Loop {
		label = taken
	}
	if !w.pops(taken + map[int]string{instr.If: "i"}[in.Op]) {
		return in, false
	}
	part := func() []api.Instr {
		w.frames = append(w.frames, frame{label, len(w.stack)})
		w.stack += taken
		l := w.list(d.throw(many), left)
		w.stack = w.stack[:w.base()]
		w.frames = w.frames[:len(w.frames)-1]
		return l
	}
	in.L = part()
	if in.Op == instr.If && (taken != left || d.throw(2) == 0) {
		in.E = part()
		if taken != left && len(in.E) == 0 {
			// Without an Else it may not be.
			in.E = code(op(instr.Nop))
		}
	}
	w.stack += left
	return in, true
}

// sig is a function's type.
func (d *dice) sig() string {
	s := ""
	for range d.throw(4) {
		s += pick(d, []string{"i", "l", "r"})
	}
	s += ">"
	for range d.throw(4) {
		s += pick(d, []string{"i", "l", "r"})
	}
	return s
}

// module is one that may be run, with some functions.
func (d *dice) module() api.Module {
	m := api.Module{Types: []api.FuncType{{}, functype("i>i")}, Tables: []api.Limits{{Max: -1}, {Max: -1}}, Mems: []api.Limits{{Max: -1}, {Max: -1}}}
	for range 1 + d.throw(4) {
		m.Types = append(m.Types, functype(d.sig()))
	}
	for range d.throw(3) {
		m.Imports = append(m.Imports, api.Import{Kind: 0, T: d.throw(len(m.Types))}, api.Import{Kind: 3, T: 0x7F})
	}
	for range 1 + d.throw(3) {
		m.Funcs = append(m.Funcs, d.throw(len(m.Types)))
	}
	for _, f := range m.Funcs {
		t := m.Types[f]
		w := &writer{d: d, m: m, funcs: funcs(m), locals: letters(t.P) + "il", frames: []frame{{letters(t.R), 0}}}
		m.Codes = append(m.Codes, api.Code{Locals: []int{0x7F, 0x7E}, L: w.list(d.throw(25), letters(t.R))})
	}
	return m
}

// machine does what is no jump of a code, not as it is meant, but so that what it leaves hangs on all that was done ahead of it. A jump takes a turn, if it is back.
type machine struct {
	m     api.Module
	stack []int
	did   uint64
	turns int
}

func (k *machine) pop() int {
	n := k.stack[len(k.stack)-1]
	k.stack = k.stack[:len(k.stack)-1]
	return n
}

func (k *machine) note(n int) { k.did = (k.did ^ uint64(n+1)) * 0x9E3779B97F4A7C15 }

// do does an instruction that is no block and no jump.
func (k *machine) do(o, a, m int) {
	k.note(o)
	k.note(a)
	k.note(m)
	taken, left := effect(k.m, o, a)
	for range taken {
		k.note(k.pop())
	}
	for i := range left {
		k.note(i)
		k.stack = append(k.stack, int(k.did>>33)%3)
	}
}

// cut keeps the last numbers, above the first ones.
func (k *machine) cut(keep, base int) {
	k.stack = append(slices.Clone(k.stack[:base]), k.stack[len(k.stack)-keep:]...)
}

// What a list comes to that is not at a label: its end, or the end of all.
const (
	through = -1
	over    = -2
)

// tree goes through instructions as they stand within one another; a label's number says whither it goes on.
func (k *machine) tree(l []api.Instr, deep int) int {
	for _, in := range l {
		to := through
		switch in.Op {
		case instr.Nop:
		case instr.Unreachable:
			k.note(-1)
			return over
		case instr.OpBlock, instr.Loop, instr.If:
			to = k.block(in, deep)
		case instr.Br:
			to = in.A
		case instr.BrIf:
			if k.pop() != 0 {
				to = in.A
			}
		case instr.BrTable:
			if n := k.pop(); n < len(in.N) {
				to = in.N[n]
			} else {
				to = in.A
			}
		case instr.Return:
			to = deep
		default:
			k.do(in.Op, in.A, in.M)
		}
		if to != through {
			return to
		}
	}
	return through
}

func (k *machine) block(in api.Instr, deep int) int {
	l := in.L
	if in.Op == instr.If && k.pop() == 0 {
		l = in.E
	}
	taken, left := arity(k.m, in.A)
	base := len(k.stack) - taken
	for {
		to := k.tree(l, deep+1)
		switch {
		case to == 0 && in.Op == instr.Loop:
			k.cut(taken, base)
			if k.turns--; k.turns < 0 {
				return over
			}
			continue
		case to == 0:
			k.cut(left, base)
			return through
		case to > 0:
			return to - 1
		}
		return to
	}
}

// flat goes through flat code.
func (k *machine) flat(t *testing.T, l []api.Flat) {
	at := 0
	jump := func(j api.Jump) bool {
		if j.Keep+j.Base > len(k.stack) {
			t.Errorf("%+v with %d", j, len(k.stack))
			return false
		}
		k.cut(j.Keep, j.Base)
		at = j.To
		if j.Back {
			k.turns--
		}
		return k.turns >= 0
	}
	for l[at].Op != 0x104 {
		in := l[at]
		at++
		goes := true
		switch in.Op {
		case 0x100:
			goes = jump(in.J[0])
		case 0x101:
			if k.pop() == 0 {
				goes = jump(in.J[0])
			}
		case 0x102:
			if k.pop() != 0 {
				goes = jump(in.J[0])
			}
		case 0x103:
			goes = jump(in.J[min(k.pop(), len(in.J)-1)])
		case 0:
			k.note(-1)
			goes = false
		default:
			k.do(in.Op, in.A, in.M)
		}
		if !goes {
			return
		}
	}
}

// same asks that a function's flat code does what its code does.
func same(t *testing.T, m api.Module, f int) {
	t.Helper()
	l, _ := Lay(m, f)
	for seed := range 4 {
		a, b := &machine{m: m, turns: 30, did: uint64(seed)}, &machine{m: m, turns: 30, did: uint64(seed)}
		if to := a.tree(m.Codes[f].L, 0); to == 0 {
			a.cut(len(m.Types[m.Funcs[f]].R), 0)
		}
		b.flat(t, l)
		if a.did != b.did || a.turns != b.turns || !slices.Equal(a.stack, b.stack) {
			t.Errorf("%+v\n%s\n%+v\n%+v", m.Codes[f].L, show(l), a, b)
		}
	}
}

// 8.1, 8.2: random code is laid out by the chapter's words, and does what it did.
func TestRandom(t *testing.T) {
	d := dice(8)
	seen := map[int]int{}
	for range 8000 {
		m := d.module()
		if e := valid.Check(m); e != api.OK {
			t.Fatalf("%d: %+v", e, m)
		}
		all := All(m)
		if len(all) != len(m.Funcs) {
			t.Fatal(len(all))
		}
		for f := range m.Funcs {
			lays(t, m, f, show(plainLay(m, f)))
			same(t, m, f)
			for _, in := range all[f] {
				seen[in.Op]++
			}
		}
		if t.Failed() {
			return
		}
	}
	for _, o := range append(slices.Clone(opcodes), 0, 0x10, 0x11, 0x1A, 0x1B, 0x1C, 0x20, 0x21, 0x22, 0x100, 0x101, 0x102, 0x103) {
		if seen[o] < 5 {
			t.Errorf("%x: %d", o, seen[o])
		}
	}
}

// 8.1: a Nop put anywhere into a code changes nothing.
func TestNop(t *testing.T) {
	d := dice(80)
	for range 200 {
		m := d.module()
		for f := range m.Funcs {
			want := show(plainLay(m, f))
			for _, l := range lists(&m.Codes[f].L) {
				was := slices.Clone(*l)
				// An Else of a Nop alone is one.
				for at := 0; at <= len(was) && len(was) > 0; at++ {
					*l = slices.Insert(slices.Clone(was), at, op(instr.Nop))
					if got, e := Lay(m, f); e != api.OK || show(got) != want {
						t.Fatalf("%d %s, was %s", e, show(got), want)
					}
				}
				*l = was
			}
		}
	}
}

// lists are all lists of instructions of a code, from the innermost on.
func lists(l *[]api.Instr) []*[]api.Instr {
	var all []*[]api.Instr
	for i := range *l {
		in := &(*l)[i]
		if in.Op == instr.OpBlock || in.Op == instr.Loop || in.Op == instr.If {
			all = append(all, lists(&in.L)...)
		}
		if in.Op == instr.If {
			all = append(all, lists(&in.E)...)
		}
	}
	return append(all, l)
}

// P1: whatever a module is, each call ends; what may not be run is refused.
func TestCalm(t *testing.T) {
	d := dice(81)
	refused := 0
	for range 3000 {
		m := d.module()
		for range 1 + d.throw(2) {
			l := pick(&d, lists(&m.Codes[d.throw(len(m.Codes))].L))
			odd := api.Instr{Op: pick(&d, []int{-1, 0, 2, 3, 4, 5, 0x0B, 0x0C, 0x0D, 0x0E, 0x10, 0x11, 0x1C, 0x20, 0x28, 0xFC0A, 0x43, 0x100, 0x104, d.throw(256)}), A: pick(&d, []int{-1, 0, 1, 2, 5, 99, 1 << 31, 1<<32 - 1, 1 << 32, -1 << 63})}
			if d.throw(2) == 0 {
				odd.N = []int{odd.A, 0}
			}
			*l = slices.Insert(*l, d.throw(len(*l)+1), odd)
		}
		if d.throw(9) == 0 {
			m.Funcs[0] = d.throw(12) - 1
		}
		e := valid.Check(m)
		for f := -2; f < len(m.Funcs)+2; f++ {
			switch {
			case f < 0 || f >= len(m.Funcs):
				refuses(t, m, f, api.ErrIndex)
			case e != api.OK:
				refused++
				refuses(t, m, f, api.ErrArg)
			default:
				lays(t, m, f, show(plainLay(m, f)))
			}
		}
		if all := All(m); e != api.OK && len(all) > 0 {
			t.Error(all)
		}
	}
	if refused < 1000 {
		t.Error(refused)
	}
}
