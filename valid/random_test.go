package valid

import (
	"math"
	"reflect"
	"slices"
	"strings"
	"testing"

	"scarf/api"
	"scarf/instr"
	"scarf/module"
)

// dice throws numbers, the same ones in each run.
type dice uint64

func (d *dice) throw(n int) int {
	*d = *d*6364136223846793005 + 1442695040888963407
	return int(uint64(*d)>>33) % n
}

func pick[T any](d *dice, l []T) T { return l[d.throw(len(l))] }

// writer writes code that may be run: it has the second checker go along.
type writer struct {
	d   *dice
	p   *plain
	ops []int
}

// may tells whether the second checker takes an instruction; if not, all is as it was.
func (w *writer) may(in api.Instr) (ok bool) {
	stack, frames := w.p.stack, slices.Clone(w.p.frames)
	defer func() {
		if r := recover(); r != nil {
			w.p.stack, w.p.frames, ok = stack, frames, false
		}
	}()
	w.p.step(in)
	return true
}

// plain is any instruction that is no block, whose indices most often name something.
func (w *writer) plain() api.Instr {
	d, p := w.d, w.p
	in := op(pick(d, w.ops))
	many := map[int]int{instr.Br: len(p.frames), instr.BrIf: len(p.frames), instr.BrTable: len(p.frames), instr.Call: len(p.funcs), instr.RefFunc: len(p.funcs), instr.LocalGet: len(p.locals), instr.LocalSet: len(p.locals), instr.LocalTee: len(p.locals), instr.GlobalGet: len(p.globals), instr.GlobalSet: len(p.globals), instr.CallIndirect: len(p.m.Types)}[in.Op]
	shape, _ := instr.Shape(in.Op)
	switch shape {
	case instr.Index, instr.Labels, instr.Indir:
		in.A = d.throw(many + 1)
	case instr.Types:
		in.A = pick(d, []int{0x7F, 0x7E, 0x70})
	case instr.Const, instr.Place:
		in.A = d.throw(100)
	case instr.Spaces:
		in.A = d.throw(3)
	}
	switch shape {
	case instr.Indir, instr.Place, instr.Space, instr.Spaces:
		in.M = d.throw(3)
	case instr.Labels:
		for range d.throw(4) {
			in.N = append(in.N, d.throw(many+1))
		}
	}
	if shape == instr.Place {
		in.B = d.throw(5)
	}
	return in
}

// code writes so many instructions, and what is needed behind them to end with these types.
func (w *writer) code(many int, left string) []api.Instr {
	var l []api.Instr
	for range many {
		if w.d.throw(6) == 0 && len(w.p.frames) < 5 {
			if in, ok := w.block(many / 2); ok {
				l = append(l, in)
			}
			continue
		}
		for range 30 {
			if in := w.plain(); w.may(in) {
				l = append(l, in)
				break
			}
		}
	}
	for strings.Trim(w.p.stack[w.p.base():], "*") != "" {
		w.p.pop('?')
		l = append(l, op(instr.Drop))
	}
	w.p.stack += left
	return append(l, consts(left)...)
}

// block writes a block, if its arguments are there.
func (w *writer) block(many int) (api.Instr, bool) {
	d, p := w.d, w.p
	in := with(pick(d, []int{instr.OpBlock, instr.Loop, instr.If}), pick(d, []int{-64, -1, -2, -16, d.throw(len(p.m.Types))}))
	taken, left := "", map[int]string{-1: "i", -2: "l", -16: "r"}[in.A]
	if in.A >= 0 {
		taken, left = letters(p.m.Types[in.A].P), letters(p.m.Types[in.A].R)
	}
	label := left
	if in.Op == instr.Loop {
		label = taken
	}
	more := map[int]string{instr.If: "i"}[in.Op]
	if own := p.stack[p.base():]; !strings.HasSuffix(own, taken+more) {
		return in, false
	}
	p.pops(taken + more)
	part := func() []api.Instr {
		p.frames = append(p.frames, frame{label, len(p.stack)})
		p.stack += taken
		l := w.code(many, left)
		p.end(left)
		return l
	}
	in.L = part()
	if in.Op == instr.If && (taken != left || d.throw(2) == 0) {
		in.E = part()
	}
	p.stack += left
	return in, true
}

// sig is a function's type.
func (d *dice) sig() string {
	s := ""
	for range d.throw(3) {
		s += pick(d, []string{"i", "l", "r"})
	}
	s += ">"
	for range d.throw(3) {
		s += pick(d, []string{"i", "l", "r"})
	}
	return s
}

func (d *dice) typ() int { return pick(d, []int{0x7F, 0x7E, 0x70}) }

func (d *dice) limits(most int) api.Limits {
	least := d.throw(3)
	return api.Limits{Min: least, Max: pick(d, []int{-1, least, most})}
}

// constant is one of a type, within what is imported.
func (d *dice) constant(p *plain, typ int) api.Instr {
	l := consts(letters([]int{typ}))
	for i := range p.outer {
		if g := p.globals[i]; g.T == typ && !g.Mut {
			l = append(l, op(instr.GlobalGet, i))
		}
	}
	if typ == 0x70 && len(p.funcs) > 0 {
		l = append(l, op(instr.RefFunc, d.throw(len(p.funcs))))
	}
	return pick(d, l)
}

// module is one that may be run.
func (d *dice) module() api.Module {
	m := api.Module{Types: []api.FuncType{{}}}
	for range 1 + d.throw(4) {
		m.Types = append(m.Types, functype(d.sig()))
	}
	for range d.throw(6) {
		m.Imports = append(m.Imports, pick(d, []api.Import{{Kind: 0, T: d.throw(len(m.Types))}, {Kind: 1, Lim: d.limits(1024)}, {Kind: 2, Lim: d.limits(16)}, {Kind: 3, T: d.typ(), Mut: d.throw(2) == 0}}))
	}
	for range 1 + d.throw(3) {
		m.Funcs = append(m.Funcs, d.throw(len(m.Types)))
	}
	for range d.throw(3) {
		m.Tables = append(m.Tables, d.limits(1024))
		m.Mems = append(m.Mems, d.limits(16))
	}
	p := plainSpace(m)
	for range d.throw(4) {
		typ := d.typ()
		m.Globals = append(m.Globals, api.Global{T: typ, Mut: d.throw(2) == 0, Init: d.constant(p, typ)})
	}
	p = plainSpace(m)
	for i, n := range []int{len(p.funcs), len(p.tables), len(p.mems), len(p.globals)} {
		if n > 0 {
			m.Exports = append(m.Exports, api.Export{Name: strings.Repeat("x", i), Kind: i, I: d.throw(n)})
		}
	}
	for range d.throw(3) {
		if len(p.tables) > 0 {
			m.Elems = append(m.Elems, api.Elem{Table: d.throw(len(p.tables)), Off: d.constant(p, 0x7F), F: []int{d.throw(len(p.funcs)), d.throw(len(p.funcs))}})
		}
		if len(p.mems) > 0 {
			m.Datas = append(m.Datas, api.Data{Mem: d.throw(len(p.mems)), Off: d.constant(p, 0x7F), B: "b"})
		}
	}
	for i, f := range p.funcs {
		if t := m.Types[f]; len(t.P)+len(t.R) == 0 && d.throw(2) == 0 {
			m.Start = i + 1
		}
	}
	for _, f := range m.Funcs {
		m.Codes = append(m.Codes, d.code(plainSpace(m), m.Types[f]))
	}
	return m
}

// code writes a function's code.
func (d *dice) code(p *plain, f api.FuncType) api.Code {
	c := api.Code{}
	for range d.throw(4) {
		c.Locals = append(c.Locals, d.typ())
	}
	w := &writer{d: d, p: p, ops: d.some(opcodes)}
	p.locals = letters(f.P) + letters(c.Locals)
	p.frames = []frame{{letters(f.R), 0}}
	c.L = w.code(d.throw(20), letters(f.R))
	return c
}

// some are opcodes that are no blocks, those that are not of numbers more often.
func (d *dice) some(ops []int) []int {
	var l []int
	for _, o := range ops {
		shape, _ := instr.Shape(o)
		_, number := sigOf[o]
		if shape == instr.Block || number && shape == instr.None && d.throw(4) > 0 {
			continue
		}
		l = append(l, o)
	}
	return l
}

// lists are all lists of instructions of a code, from the innermost on.
func lists(l *[]api.Instr) []*[]api.Instr {
	var all []*[]api.Instr
	for i := range *l {
		in := &(*l)[i]
		if in.Op == instr.OpBlock || in.Op == instr.Loop || in.Op == instr.If {
			all = append(all, lists(&in.L)...)
		}
		if in.Op == instr.If {
			all = append(all, lists(&in.E)...)
		}
	}
	return append(all, l)
}

// number is an index, or a limit, most often a small one.
func (d *dice) number() int {
	return pick(d, []int{0, 1, 2, 3, 4, 5, 6, d.throw(12), 16, 17, 1024, 1025, 1<<32 - 1})
}

// spoil changes something of a code.
func (w *writer) spoil(c *api.Code) {
	d := w.d
	l := pick(d, lists(&c.L))
	if len(*l) == 0 {
		*l = append(*l, pick(d, []api.Instr{c32, c64, null, op(instr.Drop), op(instr.Unreachable), op(instr.Nop)}))
		return
	}
	i := d.throw(len(*l))
	in := &(*l)[i]
	shape, _ := instr.Shape(in.Op)
	switch d.throw(7) {
	case 0:
		*l = slices.Delete(*l, i, i+1)
	case 1:
		*l = slices.Insert(*l, i, w.plain())
	case 2:
		*in = w.plain()
	case 3:
		*l = slices.Insert(*l, i, op(instr.Unreachable))
	case 4:
		j := d.throw(len(*l))
		(*l)[i], (*l)[j] = (*l)[j], (*l)[i]
	case 5:
		switch shape {
		case instr.Index, instr.Labels, instr.Indir, instr.Spaces:
			in.A = d.number()
		case instr.Block:
			in.A = pick(d, []int{-64, -1, -2, -16, d.number()})
		case instr.Place:
			in.B = d.throw(8)
		case instr.Types:
			in.A = d.typ()
		}
	case 6:
		switch shape {
		case instr.Indir, instr.Place, instr.Space, instr.Spaces:
			in.M = d.number()
		case instr.Block:
			in.Op = pick(d, []int{instr.OpBlock, instr.Loop, instr.If})
			in.E = nil
		}
	}
}

// spoilThing changes something of a module beside its codes.
func (d *dice) spoilThing(m *api.Module) {
	any32 := pick(d, []api.Instr{c32, c64, null, op(instr.RefFunc, d.number()), op(instr.GlobalGet, d.number()), op(instr.Nop)})
	lim := api.Limits{Min: d.number(), Max: pick(d, []int{-1, d.number()})}
	of := func(n int) int { return d.throw(max(n, 1)) }
	switch i := d.throw(10); {
	case i == 0 && len(m.Imports) > 0:
		in := &m.Imports[of(len(m.Imports))]
		switch in.Kind {
		case 0:
			in.T = d.number()
		case 3:
			in.T, in.Mut = d.typ(), !in.Mut
		default:
			in.Lim = lim
		}
	case i == 1:
		m.Funcs[of(len(m.Funcs))] = d.number()
	case i == 2 && len(m.Tables) > 0:
		m.Tables[of(len(m.Tables))] = lim
	case i == 3 && len(m.Mems) > 0:
		m.Mems[of(len(m.Mems))] = lim
	case i == 4 && len(m.Globals) > 0:
		m.Globals[of(len(m.Globals))].Init = any32
	case i == 5:
		m.Exports = append(m.Exports, api.Export{Name: strings.Repeat("x", d.throw(8)), Kind: d.throw(4), I: d.number()})
	case i == 6:
		m.Start = d.number()
	case i == 7:
		m.Elems = append(m.Elems, api.Elem{Table: d.throw(3), Off: any32, F: []int{d.number()}})
	case i == 8:
		m.Datas = append(m.Datas, api.Data{Mem: d.throw(3), Off: any32})
	case i == 9:
		m.Codes[of(len(m.Codes))].Locals = slices.Repeat([]int{0x7E}, 250+d.throw(8))
	}
}

// spoiled is a module that could be run, before something of it was changed.
func (d *dice) spoiled() api.Module {
	m := d.module()
	for range d.throw(3) {
		i := d.throw(len(m.Codes))
		p := plainSpace(m)
		p.locals, p.frames = letters(m.Codes[i].Locals), []frame{{"", 0}, {"", 0}}
		(&writer{d: d, p: p, ops: d.some(opcodes)}).spoil(&m.Codes[i])
	}
	if d.throw(3) == 0 {
		d.spoilThing(&m)
	}
	return m
}

// 7.2: modules that may be run, with code of all instructions.
func TestCheckRandom(t *testing.T) {
	d := dice(7)
	seen := map[int]int{}
	for range 3000 {
		m := d.module()
		checks(t, m, api.OK)
		for i := range m.Codes {
			for _, l := range lists(&m.Codes[i].L) {
				for _, in := range *l {
					seen[in.Op]++
				}
			}
		}
	}
	for _, o := range opcodes {
		if seen[o] < 10 {
			t.Errorf("%x: %d", o, seen[o])
		}
	}
}

// 7.2: modules of which something was changed, by the chapter's words.
func TestCheckSpoiled(t *testing.T) {
	d := dice(8)
	seen := map[api.Errno]int{}
	for range 10000 {
		m := d.spoiled()
		e := plainCheck(m)
		checks(t, m, e)
		seen[e]++
	}
	for _, e := range []api.Errno{api.OK, api.ErrType, api.ErrIndex, api.ErrLimit, api.ErrConst, api.ErrDup, api.ErrAlign, api.ErrFull} {
		if seen[e] < 10 {
			t.Errorf("%d: %d", e, seen[e])
		}
	}
}

// changeNothing are the instructions of which a code may have any more.
func changeNothing(p *plain) [][]api.Instr {
	drop := op(instr.Drop)
	l := [][]api.Instr{code(op(instr.Nop)), code(c32, drop), code(c64, drop), code(null, drop)}
	if len(p.funcs) > 0 {
		l = append(l, code(op(instr.RefFunc, len(p.funcs)-1), drop))
	}
	for i := range p.outer {
		if !p.globals[i].Mut {
			l = append(l, code(op(instr.GlobalGet, i), drop))
		}
	}
	return l
}

// 7.3: a Nop, or a constant that is dropped, put anywhere into a code, changes nothing, whether the code may be run or not.
func TestChangeNothing(t *testing.T) {
	d := dice(9)
	more := []api.Module{whole(), function(">", nil), function(">i", code(c32)), function(">i", code(c64))}
	for _, b := range kinds(1, nil, code(op(eqz32), op(instr.BrIf))) {
		more = append(more, plus(whole(), ">i", code(c32, c32, b)))
	}
	for i := range 400 {
		m := d.spoiled()
		if i < len(more) {
			m = more[i]
		}
		e := Check(m)
		for i := range m.Codes {
			for _, l := range lists(&m.Codes[i].L) {
				was := slices.Clone(*l)
				for at := range len(was) + 1 {
					for _, in := range changeNothing(plainSpace(m)) {
						*l = slices.Insert(slices.Clone(was), at, in...)
						if got := Check(m); got != e {
							t.Errorf("%d, was %d: %v in %v at %d", got, e, in, was, at)
						}
					}
				}
				*l = was
			}
		}
	}
}

// 7.3: a function of Unreachable alone may be, of what type ever, and whatever is behind it that names something.
func TestUnreachable(t *testing.T) {
	d := dice(10)
	for range 500 {
		m := d.module()
		for i := range m.Codes {
			was := m.Codes[i]
			m.Codes[i].L = code(op(instr.Unreachable))
			checks(t, m, api.OK)
			m.Codes[i].Locals = nil
			checks(t, m, api.OK)
			m.Codes[i] = was
			// What stands behind it is that of a code that may be run.
			m.Codes[i].L = append(code(op(instr.Unreachable)), was.L...)
			checks(t, m, api.OK)
		}
		e := Check(m)
		for range 5 {
			checks(t, plus(m, d.sig(), code(op(instr.Unreachable))), e)
		}
	}
	for _, sig := range []string{">", strings.Repeat("i", 32) + ">" + strings.Repeat("r", 32)} {
		checks(t, function(sig, code(op(instr.Unreachable))), api.OK)
	}
}

// T1: what is laid, and read again, is judged as before; Check changes nothing of what it is given, and answers the same again.
func TestCheckAgain(t *testing.T) {
	d := dice(11)
	for range 500 {
		m := d.spoiled()
		e := Check(m)
		s, put := module.Put(m)
		if put == api.ErrArg {
			continue
		}
		read, _ := module.Take(s)
		if got := Check(read); got != e {
			t.Errorf("%d, was %d: %+v", got, e, m)
		}
		if again, _ := module.Put(m); again != s || Check(m) != e {
			t.Errorf("%+v", m)
		}
		ofs(t, m)
	}
}

// odd is any number.
func (d *dice) odd() int {
	return pick(d, []int{0, 1, 2, 3, -1, -2, -16, -64, 0x70, 0x7D, 0x7E, 0x7F, 63, 64, 1024, 1 << 31, 1<<32 - 1, 1 << 32, math.MaxInt, math.MinInt, d.throw(300)})
}

// oddInstr is any instruction, with anything within it.
func (d *dice) oddInstr(deep int) api.Instr {
	in := api.Instr{Op: pick(d, []int{d.odd(), d.throw(256), 0xFC00 + d.throw(20), 2, 3, 4}), A: d.odd()}
	if d.throw(4) == 0 {
		in.B, in.M, in.N = d.odd(), d.odd(), []int{d.odd(), d.odd()}
	}
	for range d.throw(3) {
		if deep > 0 {
			in.L = append(in.L, d.oddInstr(deep-1))
			in.E = append(in.E, d.oddInstr(deep-1))
		}
	}
	return in
}

// P1: nothing that is handed in makes a call panic, and what is answered is what the chapter's words say.
func TestCalm(t *testing.T) {
	d := dice(12)
	for range 3000 {
		m := d.spoiled()
		for range 1 + d.throw(3) {
			switch d.throw(9) {
			case 0:
				grow(&m.Types, api.FuncType{P: []int{d.odd()}, R: []int{d.odd()}})
			case 1:
				grow(&m.Imports, api.Import{Kind: pick(&d, []int{0, 1, 2, 3, d.odd()}), T: d.odd(), Lim: api.Limits{Min: d.odd(), Max: d.odd()}})
			case 2:
				grow(&m.Funcs, d.odd())
			case 3:
				grow(&m.Tables, api.Limits{Min: d.odd(), Max: d.odd()})
				grow(&m.Mems, api.Limits{Min: d.odd(), Max: d.odd()})
			case 4:
				grow(&m.Globals, api.Global{T: d.odd(), Init: d.oddInstr(2)})
			case 5:
				grow(&m.Exports, api.Export{Kind: d.odd(), I: d.odd()})
			case 6:
				m.Start = d.odd()
			case 7:
				grow(&m.Elems, api.Elem{Table: d.odd(), Off: d.oddInstr(1), F: []int{d.odd()}})
				grow(&m.Datas, api.Data{Mem: d.odd(), Off: d.oddInstr(1)})
			case 8:
				grow(&m.Codes[0].L, d.oddInstr(3), d.oddInstr(0))
			}
		}
		checks(t, m, plainCheck(m))
		s := ofs(t, m)
		for range 5 {
			i := d.odd()
			f, ok := s.Type(i)
			may := i >= 0 && i < len(s.Funcs) && s.Funcs[i] >= 0 && s.Funcs[i] < len(m.Types)
			if ok != may || ok && !sameType(f, m.Types[s.Funcs[i]]) || !ok && !reflect.DeepEqual(f, api.FuncType{}) {
				t.Error(i, f, ok)
			}
		}
	}
	// A code within itself, types in great numbers: they may not be laid, and are told of all the same.
	loop := code(with(instr.Loop, none))
	loop[0].L = loop
	m := api.Module{Types: make([]api.FuncType, 5000), Globals: []api.Global{{T: 0x7F, Init: loop[0]}}}
	checks(t, m, api.ErrArg)
	if s := Of(m); len(s.Types) != 5000 || len(s.Globals) != 1 || s.Globals[0].Init.Op != instr.Loop {
		t.Error(len(s.Types), len(s.Globals))
	}
}
