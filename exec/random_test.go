package exec

import (
	"slices"
	"strings"
	"testing"

	"scarf/api"
	"scarf/instr"
	"scarf/mem"
	"scarf/num"
	"scarf/valid"
)

// dice throws numbers, the same ones in each run.
type dice uint64

func (d *dice) throw(n int) int {
	*d = *d*6364136223846793005 + 1442695040888963407
	return int(uint64(*d)>>33) % n
}

func pick[T any](d *dice, l []T) T { return l[d.throw(len(l))] }

// frame is a block: the types of a jump to it, and how long the stack was below it.
type frame struct {
	label string
	base  int
}

// writer writes code that may be run: it goes along with a stack of letters; where nothing goes on there stand more * than could be taken.
type writer struct {
	d       *dice
	m       api.Module
	space   valid.Space
	own     int
	locals  string
	stack   string
	frames  []frame
	written []api.Instr
}

func (w *writer) base() int          { return w.frames[len(w.frames)-1].base }
func (w *writer) label(n int) string { return w.frames[len(w.frames)-1-n].label }

// pops takes letters from the stack; false: they are not there, and the stack is as it was.
func (w *writer) pops(want string) bool {
	stack := w.stack
	for ; want != ""; want = want[:len(want)-1] {
		top, c := len(stack)-1, want[len(want)-1]
		if top < w.base() || stack[top] != c && stack[top] != '*' && c != '?' {
			return false
		}
		stack = stack[:top]
	}
	w.stack = stack
	return true
}

// goes writes an instruction that takes letters and leaves others, behind what it takes, where this is not there, or, more often than not, anew.
func (w *writer) goes(in api.Instr, taken, left string) {
	fresh := w.d.throw(3) > 0 && !strings.Contains(taken, "?")
	if !fresh && w.pops(taken) {
		w.written = append(w.written, in)
		w.stack += left
		return
	}
	for _, c := range taken {
		w.written = append(w.written, w.some(c))
	}
	w.written = append(w.written, in)
	w.stack += left
}

// stops writes one behind which nothing goes on.
func (w *writer) stops(in api.Instr, taken string) {
	if !w.pops(taken) {
		for _, c := range taken {
			w.written = append(w.written, w.some(c))
		}
	}
	w.written = append(w.written, in)
	w.stack = w.stack[:w.base()] + strings.Repeat("*", 300)
}

// some is an instruction that leaves something of a type: small numbers more often than others.
func (w *writer) some(c rune) api.Instr {
	d := w.d
	if n := d.throw(len(w.locals)); d.throw(3) == 0 && rune(w.locals[n]) == c {
		return get(n)
	}
	if n := d.throw(len(w.space.Globals) + 1); n < len(w.space.Globals) && d.throw(3) == 0 && letters([]int{w.space.Globals[n].T}) == string(c) {
		return op(0x23, n)
	}
	switch c {
	case 'i':
		return i32(pick(d, []int{0, 1, 2, 3, d.throw(9), d.throw(99), pick(d, []int{-1, -1, 255, 1023, 65528, 65535, 65536, 1<<31 - 1, -1 << 31, -1 << 31})}))
	case 'l':
		return i64(pick(d, []int{0, 1, 2, d.throw(99), pick(d, []int{-1, -1, 1 << 31, 1 << 32, 1<<63 - 1, -1 << 63, -1 << 63})}))
	}
	if d.throw(4) == 0 {
		return null
	}
	return op(0xD2, d.throw(len(w.space.Funcs)))
}

// jump writes an instruction that jumps.
func (w *writer) jump() {
	d, n := w.d, w.d.throw(len(w.frames))
	switch d.throw(12) {
	case 0:
		w.stops(op(instr.Br, n), w.label(n))
	case 1:
		in := labels(n)
		for range d.throw(4) {
			if other := d.throw(len(w.frames)); w.label(other) == w.label(n) {
				in.N = append(in.N, other)
			}
		}
		w.stops(in, w.label(n)+"i")
	case 2:
		if d.throw(4) == 0 {
			w.stops(op(instr.Return), w.frames[0].label)
		}
	case 3:
		if d.throw(12) == 0 {
			w.stops(op(instr.Unreachable), "")
		}
	default:
		w.goes(op(instr.BrIf, n), w.label(n)+"i", w.label(n))
	}
}

// callee is a function, more often than not one ahead of the one that is written, so that there are calls that end.
func (w *writer) callee() int {
	if w.own > 0 && w.d.throw(5) > 0 {
		return w.d.throw(w.own)
	}
	return w.d.throw(len(w.space.Funcs))
}

// named writes an instruction that names a thing.
func (w *writer) named() {
	d := w.d
	n := d.throw(len(w.locals))
	local := w.locals[n : n+1]
	f, typ, g := w.callee(), pick(d, append([]int{d.throw(len(w.m.Types))}, w.space.Funcs...)), d.throw(len(w.space.Globals))
	switch d.throw(12) {
	case 0, 1:
		w.goes(get(n), "", local)
	case 2:
		w.goes(op(instr.LocalSet, n), local, "")
	case 3:
		w.goes(op(instr.LocalTee, n), local, local)
	case 4, 5:
		t := w.space.Types[w.space.Funcs[f]]
		w.goes(op(instr.Call, f), letters(t.P), letters(t.R))
	case 6, 7:
		t := w.m.Types[typ]
		for _, c := range letters(t.P) {
			w.written = append(w.written, w.some(c))
		}
		w.written = append(w.written, i32(d.throw(5)), op(instr.CallIndirect, typ, d.throw(len(w.space.Tables))))
		w.stack += letters(t.R)
	case 8:
		if len(w.stack) > w.base() {
			w.goes(op(instr.Drop), "?", "")
		}
	case 9:
		c := pick(d, []string{"i", "l", "r"})
		w.goes(op(instr.SelectT, types(c)[0]), c+c+"i", c)
	case 10:
		c := pick(d, []string{"i", "l"})
		w.goes(op(instr.Select), c+c+"i", c)
	default:
		c := letters([]int{w.space.Globals[g].T})
		if w.space.Globals[g].Mut && d.throw(3) > 0 {
			w.goes(op(instr.GlobalSet, g), c, "")
		} else {
			w.goes(op(instr.GlobalGet, g), "", c)
		}
	}
}

// row is what an instruction that always takes and leaves the same takes and leaves.
func row(o int) (string, string) {
	if many, typ, left := num.Sig(o); many > 0 {
		return strings.Repeat(letters([]int{typ}), many), letters([]int{left})
	}
	if bytes, typ, stores := mem.Width(o); bytes > 0 && stores {
		return "i" + letters([]int{typ}), ""
	} else if bytes > 0 {
		return "i", letters([]int{typ})
	}
	x := map[int]string{
		0x41: ">i", 0x42: ">l", 0xD0: ">r", 0xD1: "r>i", 0xD2: ">r", 0x3F: ">i", 0x40: "i>i", 0xFC0B: "iii>", 0xFC0A: "iii>",
		0x25: "i>r", 0x26: "ir>", 0xFC10: ">i", 0xFC0F: "ri>i", 0xFC11: "iri>", 0xFC0E: "iii>",
	}[o]
	taken, left, _ := strings.Cut(x, ">")
	return taken, left
}

// rowed writes an instruction that has a row.
func (w *writer) rowed() {
	d := w.d
	o := pick(d, opcodes)
	if d.throw(3) == 0 {
		o = pick(d, opcodes[len(opcodes)-10:])
	}
	in := op(o)
	shape, _ := instr.Shape(o)
	switch shape {
	case instr.Const:
		in.A = d.throw(5)
	case instr.Index:
		in.A = d.throw(len(w.space.Funcs))
	case instr.Place:
		in.A, in.M = pick(d, []int{0, 0, 1, d.throw(9), d.throw(65536)}), d.throw(len(w.space.Mems))
	case instr.Space, instr.Spaces:
		many := len(w.space.Mems)
		if o == 0x25 || o == 0x26 || o >= 0xFC0E {
			many = len(w.space.Tables)
		}
		in.M = d.throw(many)
		if shape == instr.Spaces {
			in.A = d.throw(many)
		}
	}
	taken, left := row(o)
	w.goes(in, taken, left)
}

// opcodes are those that have rows, in order.
var opcodes = func() []int {
	var l []int
	for o := range 0xFC20 {
		if taken, left := row(o); taken+left != "" {
			l = append(l, o)
		}
	}
	return l
}()

// list writes so many times something, and what is needed behind it to end with these types.
func (w *writer) list(many int, left string) []api.Instr {
	before := w.written
	w.written = nil
	for range many {
		switch d := w.d.throw(12); {
		case d == 0:
			w.written = append(w.written, op(instr.Nop))
		case d < 3 && len(w.frames) < 6:
			w.block(many/2 + 1)
		case d < 5:
			w.jump()
		case d < 8:
			w.named()
		default:
			w.rowed()
		}
	}
	dead := strings.Contains(w.stack[w.base():], "*")
	for strings.Trim(w.stack[w.base():], "*") != "" {
		w.pops("?")
		w.written = append(w.written, op(instr.Drop))
	}
	if !dead || w.d.throw(3) == 0 {
		for _, c := range left {
			w.written = append(w.written, w.some(c))
		}
	}
	l := w.written
	w.written = before
	return l
}

// block writes a block.
func (w *writer) block(many int) {
	d := w.d
	in := with(pick(d, []int{instr.OpBlock, instr.Loop, instr.If}), pick(d, []int{-64, -1, -2, -16, d.throw(len(w.m.Types)), d.throw(len(w.m.Types))}))
	taken, left := "", map[int]string{-1: "i", -2: "l", -16: "r"}[in.A]
	if in.A >= 0 {
		taken, left = letters(w.m.Types[in.A].P), letters(w.m.Types[in.A].R)
	}
	label := left
	if in.Op == instr.Loop {
		label = taken
	}
	need := taken + map[int]string{instr.If: "i"}[in.Op]
	if !w.pops(need) {
		for _, c := range need {
			w.written = append(w.written, w.some(c))
		}
	}
	part := func() []api.Instr {
		w.frames = append(w.frames, frame{label, len(w.stack)})
		w.stack += taken
		l := w.list(d.throw(many), left)
		w.stack = w.stack[:w.base()]
		w.frames = w.frames[:len(w.frames)-1]
		return l
	}
	in.L = part()
	if in.Op == instr.If && (taken != left || d.throw(2) == 0) {
		in.E = part()
		if taken != left && len(in.E) == 0 {
			// Without an Else it may not be.
			in.E = code(op(instr.Nop))
		}
	}
	w.written = append(w.written, in)
	w.stack += left
}

// sig is a function's type.
func (d *dice) sig() string {
	s := ""
	for range d.throw(4) {
		s += pick(d, []string{"i", "l", "r"})
	}
	s += ">"
	for range d.throw(4) {
		s += pick(d, []string{"i", "l", "r"})
	}
	return s
}

// imports has a module import things that a world has, and tells which.
func (d *dice) imports(w *world, m *api.Module) []api.Extern {
	var link []api.Extern
	put := func(in api.Import, many int, kind int) {
		if many > 0 {
			in.Kind = kind
			m.Imports = append(m.Imports, in)
		}
	}
	for range d.throw(8) {
		n := d.throw(1 << 20)
		had := len(m.Imports)
		x := api.Extern{Kind: d.throw(4)}
		switch x.Kind {
		case 0:
			x.Addr = n % len(w.funcs)
			m.Types = append(m.Types, w.funcs[x.Addr].t)
			put(api.Import{T: len(m.Types) - 1}, 1, 0)
		case 1:
			x.Addr = n % max(1, len(w.tables))
			put(api.Import{Lim: lim(0, -1)}, len(w.tables), 1)
		case 2:
			x.Addr = n % max(1, len(w.mems))
			put(api.Import{Lim: lim(0, -1)}, len(w.mems), 2)
		case 3:
			if len(w.globals) > 0 {
				x.Addr = n % len(w.globals)
				g := w.globals[x.Addr]
				put(api.Import{T: g.T, Mut: g.Mut}, 1, 3)
			}
		}
		if len(m.Imports) > had {
			link = append(link, x)
		}
	}
	return link
}

// constant is of a type.
func (d *dice) constant(m api.Module, space valid.Space, t int) api.Instr {
	for n, g := range space.Globals[:space.Outer] {
		if g.T == t && !g.Mut && d.throw(2) == 0 {
			return op(0x23, n)
		}
	}
	switch t {
	case 0x7F:
		return i32(d.throw(20) - 10)
	case 0x7E:
		return i64(d.throw(20) - 10)
	}
	if d.throw(3) == 0 {
		return null
	}
	return op(0xD2, d.throw(len(space.Funcs)))
}

// module is one that may be run, with some functions, and what it imports.
func (d *dice) module(w *world) (api.Module, []api.Extern) {
	m := api.Module{Types: []api.FuncType{{}, functype("i>i")}}
	for range 1 + d.throw(4) {
		m.Types = append(m.Types, functype(d.sig()))
	}
	link := d.imports(w, &m)
	for range 1 + d.throw(3) {
		m.Funcs = append(m.Funcs, d.throw(len(m.Types)))
		m.Tables = append(m.Tables, pick(d, []api.Limits{lim(0, -1), lim(d.throw(4), 9), lim(6, 6), lim(6, 9), lim(8, -1)}))
		m.Globals = append(m.Globals, api.Global{T: pick(d, []int{0x7F, 0x7E, 0x70}), Mut: d.throw(3) > 0})
	}
	m.Mems = []api.Limits{pick(d, []api.Limits{lim(0, 1), lim(1, 1), lim(1, 2), lim(1, -1), lim(2, -1)})}
	space := valid.Of(m)
	for i := range m.Globals {
		m.Globals[i].Init = d.constant(m, space, m.Globals[i].T)
	}
	for i := range 1 + d.throw(4) {
		el := api.Elem{Table: d.throw(len(space.Tables)), Off: i32(d.throw(3))}
		if d.throw(9) == 0 {
			el.Off = d.constant(m, space, 0x7F)
		}
		for range 1 + d.throw(6) {
			el.F = append(el.F, d.throw(max(1, len(space.Funcs)-i)))
		}
		da := api.Data{Mem: d.throw(len(space.Mems)), Off: i32(d.throw(99)), B: strings.Repeat("abc", d.throw(9))}
		m.Elems, m.Datas = append(m.Elems, el), append(m.Datas, da)
	}
	for i, f := range m.Funcs {
		t := m.Types[f]
		own := "i" + pick(d, []string{"", "l", "r", "li"})
		wr := &writer{d: d, m: m, space: space, own: len(space.Funcs) - len(m.Funcs) + i, locals: letters(t.P) + own, frames: []frame{{letters(t.R), 0}}}
		m.Codes = append(m.Codes, api.Code{Locals: types(own), L: wr.list(d.throw(25), letters(t.R))})
	}
	return m, link
}

// answer is a host that hangs on what it is asked alone, and on how often it was asked.
func answer(w *world, seed int) answerer {
	d := dice(seed)
	return func(tag int, args []int) ([]int, api.Trap, int) {
		for _, n := range args {
			d += dice(n)
		}
		if d.throw(10) == 0 {
			return nil, api.Trap(1 + d.throw(30)), 0
		}
		var vals []int
		for _, t := range w.funcs[tag].t.R {
			vals = append(vals, map[int]int{0x7F: d.throw(10), 0x7E: d.throw(10) - 5, 0x70: d.throw(len(w.funcs) + 1)}[t])
		}
		return vals, 0, d.throw(3)
	}
}

// ends goes on with a run, till it is at its end, or stopped; how much was burnt each time is told, too.
func ends(t *testing.T, r *Run, host answerer) (api.Status, []int) {
	t.Helper()
	var burnt []int
	for {
		st := r.Status()
		if st.Kind != api.RunAsks {
			return st, burnt
		}
		vals, trap, burn := host(st.Tag, st.Vals)
		burnt = append(burnt, min(burn, st.Fuel))
		says(t, r.Burn(min(burn, st.Fuel)), api.OK)
		if trap != 0 {
			says(t, r.Fail(trap), api.OK)
		} else {
			says(t, r.Answer(vals...), api.OK)
		}
	}
}

// burns is a host that burns so much each time.
func burns(host answerer, burnt []int) answerer {
	return func(tag int, args []int) ([]int, api.Trap, int) {
		vals, trap, _ := host(tag, args)
		burn := burnt[0]
		burnt = burnt[1:]
		return vals, trap, burn
	}
}

// alikeWorlds asks that a store has in it just what a world has.
func alikeWorlds(t *testing.T, s *Store, w *world) {
	t.Helper()
	if n := count(s); n != [5]int{len(w.funcs), len(w.tables), len(w.mems), len(w.globals), len(w.insts)} {
		t.Fatal(n)
	}
	for i, x := range w.tables {
		if l, _ := s.Table(tab(i)); !slices.Equal(l, x.l) {
			t.Errorf("table %d: %v, want %v", i, l, x.l)
		}
	}
	for i, x := range w.mems {
		if all(s.Mem(memo(i))) != string(x.b) {
			t.Errorf("memory %d: other bytes", i)
		}
	}
	for i, x := range w.globals {
		if n, _ := s.Global(glob(i)); n != x.Init.A {
			t.Errorf("global %d: %d, want %d", i, n, x.Init.A)
		}
	}
}

// 9.2, 9.4 to 9.6: random modules, which import from one another, do what the chapter says; with more fuel they do the same.
func TestRandom(t *testing.T) {
	d := dice(9)
	seen, ended := map[int]int{}, map[api.Trap]int{}
	for range 1500 {
		game(t, &d, seen, ended)
		if t.Failed() {
			return
		}
	}
	for _, o := range append(slices.Clone(opcodes), 0x01, 0x10, 0x11, 0x1A, 0x1B, 0x1C, 0x20, 0x21, 0x22, 0x23, 0x24) {
		if seen[-o-1] < 20 {
			t.Errorf("%x: %d", o, seen[-o-1])
		}
	}
	for _, o := range []int{0, 0x02, 0x03, 0x04, 0x0C, 0x0D, 0x0E, 0x0F} {
		if seen[o] < 20 {
			t.Errorf("%x: %d", o, seen[o])
		}
	}
	for trap := range api.TrapHost {
		if ended[trap] < 10 {
			t.Errorf("trap %d: %d", trap, ended[trap])
		}
	}
}

// game makes a store, another one that is alike, and a world, and calls functions in each.
func game(t *testing.T, d *dice, seen map[int]int, ended map[api.Trap]int) {
	t.Helper()
	w, s, more := &world{}, New(), New()
	for tag := range 2 {
		x := d.sig()
		w.funcs = append(w.funcs, &plainFunc{t: functype(x), tag: tag})
		host(t, s, x, tag)
		host(t, more, x, tag)
	}
	for n := range 3 {
		m, link := d.module(w)
		want := w.add(m, link...)
		for _, x := range []*Store{s, more} {
			if got, e, trap := x.Add(m, link...); got != n || e != api.OK || trap != want {
				t.Fatalf("%d: %d %d %d, want %d: %+v", valid.Check(m), got, e, trap, want, m)
			}
		}
	}
	alikeWorlds(t, s, w)
	same := true
	for range 12 {
		x, fuel, seed := d.throw(len(w.funcs)), pick(d, []int{d.throw(6), d.throw(60), 400}), d.throw(1<<30)
		var args []int
		for _, typ := range w.funcs[x].t.P {
			args = append(args, map[int]int{0x7F: d.throw(6), 0x7E: d.throw(6) - 3, 0x70: d.throw(len(w.funcs) + 1)}[typ])
		}
		want := w.run(x, args, fuel, answer(w, seed), seen)
		ended[want.Trap]++
		got, burnt := ends(t, called(t, s, f(x), fuel, args...), answer(w, seed))
		if !alikeStatus(got, want) {
			t.Errorf("%d %v %d: %+v, want %+v", x, args, fuel, got, want)
		}
		for i, typ := range w.funcs[x].t.R {
			if got.Kind == api.RunDone && !s.suits(got.Vals[i], typ) {
				t.Errorf("%d: %v", x, got.Vals)
			}
		}
		alikeWorlds(t, s, w)
		if same = same && got.Trap != api.TrapFuel; same {
			again, _ := ends(t, called(t, more, f(x), fuel+1000, args...), burns(answer(w, seed), burnt))
			again.Fuel -= 1000
			if !alikeStatus(again, want) {
				t.Errorf("%d %v %d and 1000 more: %+v, want %+v", x, args, fuel, again, want)
			}
		}
		if t.Failed() {
			return
		}
	}
}
