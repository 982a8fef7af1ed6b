package exec

import (
	"slices"

	"scarf/api"
	"scarf/num"
)

// world is a store made from the chapter's words, in which code is gone through as it stands, block within block, and the host is called as a function is.
type world struct {
	funcs   []*plainFunc
	tables  []*plainTable
	mems    []*plainMem
	globals []*api.Global // Init.A is what it is
	insts   []*plainInst
}

// plainFunc is an instance's, or the host's.
type plainFunc struct {
	t    api.FuncType
	in   *plainInst
	code api.Code
	tag  int
}

type plainTable struct {
	l    []int
	most int
}

type plainMem struct {
	b    []byte
	most int
}

// plainInst is a module, and which addresses its indices of each kind are.
type plainInst struct {
	m     api.Module
	addrs [4][]int
}

// add is Add of a module that may be run, with what fits.
func (w *world) add(m api.Module, imports ...api.Extern) api.Trap {
	in := &plainInst{m: m}
	w.insts = append(w.insts, in)
	for i, x := range imports {
		in.addrs[m.Imports[i].Kind] = append(in.addrs[m.Imports[i].Kind], x.Addr)
	}
	for i, t := range m.Funcs {
		in.addrs[0] = append(in.addrs[0], len(w.funcs))
		w.funcs = append(w.funcs, &plainFunc{t: m.Types[t], in: in, code: m.Codes[i]})
	}
	for _, l := range m.Tables {
		in.addrs[1] = append(in.addrs[1], len(w.tables))
		w.tables = append(w.tables, &plainTable{make([]int, l.Min), most(l.Max, 1024)})
	}
	for _, l := range m.Mems {
		in.addrs[2] = append(in.addrs[2], len(w.mems))
		w.mems = append(w.mems, &plainMem{make([]byte, 65536*l.Min), most(l.Max, 16)})
	}
	for _, g := range m.Globals {
		n := w.constant(in, g.Init)
		in.addrs[3] = append(in.addrs[3], len(w.globals))
		w.globals = append(w.globals, &api.Global{T: g.T, Mut: g.Mut, Init: i64(n)})
	}
	return w.fill(in)
}

func most(max, limit int) int {
	if max == -1 {
		return limit
	}
	return max
}

func (w *world) constant(in *plainInst, c api.Instr) int {
	switch c.Op {
	case 0x41:
		return c.A & (1<<32 - 1)
	case 0x23:
		return w.globals[in.addrs[3][c.A]].Init.A
	case 0xD2:
		return in.addrs[0][c.A] + 1
	}
	return c.A
}

func (w *world) fill(in *plainInst) api.Trap {
	for _, l := range in.m.Elems {
		t, at := w.tables[in.addrs[1][l.Table]].l, w.constant(in, l.Off)
		if at+len(l.F) > len(t) {
			return api.TrapTable
		}
		for i, f := range l.F {
			t[at+i] = in.addrs[0][f] + 1
		}
	}
	for _, d := range in.m.Datas {
		b, at := w.mems[in.addrs[2][d.Mem]].b, w.constant(in, d.Off)
		if at+len(d.B) > len(b) {
			return api.TrapMemory
		}
		for i := range len(d.B) {
			b[at+i] = d.B[i]
		}
	}
	return api.NoTrap
}

// answerer is the host: what it answers, with which trap, and how much it burns.
type answerer func(tag int, args []int) ([]int, api.Trap, int)

// plainRun is a run, in which a trap is a panic.
type plainRun struct {
	w           *world
	fuel, depth int
	host        answerer
	seen        map[int]int
}

// run is a call, up to its end.
func (w *world) run(f int, args []int, fuel int, host answerer, seen map[int]int) (st api.Status) {
	r := &plainRun{w: w, fuel: fuel, host: host, seen: seen}
	defer func() {
		if p := recover(); p != nil {
			st = stopped(r.fuel, p.(api.Trap))
		}
	}()
	vals := r.call(w.funcs[f], args)
	return done(r.fuel, vals...)
}

func (r *plainRun) burn() {
	if r.fuel == 0 {
		panic(api.TrapFuel)
	}
	r.fuel--
}

func (r *plainRun) call(f *plainFunc, args []int) []int {
	r.burn()
	if f.in == nil {
		vals, trap, burn := r.host(f.tag, args)
		r.fuel -= min(burn, r.fuel)
		if trap != 0 {
			panic(trap)
		}
		return vals
	}
	if r.depth == 64 {
		panic(api.TrapDepth)
	}
	r.depth++
	p := &plainCall{plainRun: r, in: f.in, locals: append(slices.Clone(args), make([]int, len(f.code.Locals))...)}
	p.list(f.code.L, 0)
	r.depth--
	return p.stack[len(p.stack)-len(f.t.R):]
}

// plainCall is a call under way.
type plainCall struct {
	*plainRun
	in            *plainInst
	locals, stack []int
}

func (p *plainCall) push(n int) { p.stack = append(p.stack, n) }

func (p *plainCall) pop() int {
	n := p.stack[len(p.stack)-1]
	p.stack = p.stack[:len(p.stack)-1]
	return n
}

// list goes through instructions; what is told is the label to which there is a jump, or -1.
func (p *plainCall) list(l []api.Instr, deep int) int {
	for _, in := range l {
		p.seen[in.Op]++
		to := -1
		switch in.Op {
		case 0x02, 0x03, 0x04:
			to = p.block(in, deep)
		case 0x0C:
			to = in.A
		case 0x0D:
			if p.pop() != 0 {
				to = in.A
			}
		case 0x0E:
			if n := p.pop(); n < len(in.N) {
				to = in.N[n]
			} else {
				to = in.A
			}
		case 0x0F:
			to = deep
		default:
			p.do(in)
			// What trapped is not told as seen.
			p.seen[-in.Op-1]++
		}
		if to != -1 {
			return to
		}
	}
	return -1
}

// block goes through a block: above what stands below its arguments its results are left.
func (p *plainCall) block(in api.Instr, deep int) int {
	l := in.L
	if in.Op == 0x04 && p.pop() == 0 {
		l = in.E
	}
	taken, left := 0, 1
	if in.A >= 0 {
		taken, left = len(p.in.m.Types[in.A].P), len(p.in.m.Types[in.A].R)
	} else if in.A == -64 {
		left = 0
	}
	base := len(p.stack) - taken
	keep := func(n int) { p.stack = append(slices.Clone(p.stack[:base]), p.stack[len(p.stack)-n:]...) }
	for {
		switch to := p.list(l, deep+1); {
		case to == 0 && in.Op == 0x03:
			p.burn()
			keep(taken)
		case to == 0:
			keep(left)
			return -1
		case to > 0:
			return to - 1
		default:
			return -1
		}
	}
}

// check stops the run, unless something holds.
func check(holds bool, trap api.Trap) {
	if !holds {
		panic(trap)
	}
}

// do does an instruction that is no block and no jump.
func (p *plainCall) do(in api.Instr) {
	switch o := in.Op; {
	case o == 0x00:
		panic(api.TrapUnreachable)
	case o == 0x01:
	case o == 0x10:
		p.calls(p.w.funcs[p.in.addrs[0][in.A]])
	case o == 0x11:
		t, i := p.w.tables[p.in.addrs[1][in.M]].l, p.pop()
		check(i < len(t), api.TrapTable)
		check(t[i] != 0, api.TrapNull)
		f := p.w.funcs[t[i]-1]
		check(sig(f.t) == sig(p.in.m.Types[in.A]), api.TrapSig)
		p.calls(f)
	case o == 0x1A:
		p.pop()
	case o == 0x1B || o == 0x1C:
		c, b, a := p.pop(), p.pop(), p.pop()
		p.push(map[bool]int{true: a, false: b}[c != 0])
	case o >= 0x20 && o <= 0x24:
		p.named(in)
	case o == 0x41 || o == 0x42 || o == 0xD0 || o == 0xD2:
		p.push(p.w.constant(&plainInst{addrs: p.in.addrs}, in))
	case o == 0xD1:
		p.push(map[bool]int{true: 1}[p.pop() == 0])
	case o == 0x25 || o == 0x26 || o >= 0xFC0E:
		p.places(in, p.w.tables[p.in.addrs[1][in.M]])
	case o >= 0x28 && o <= 0x40 || o >= 0xFC00:
		p.bytes(in, p.w.mems[p.in.addrs[2][in.M]])
	default:
		p.reckon(o)
	}
}

func (p *plainCall) calls(f *plainFunc) {
	at := len(p.stack) - len(f.t.P)
	args := slices.Clone(p.stack[at:])
	p.stack = append(p.stack[:at], p.call(f, args)...)
}

func (p *plainCall) named(in api.Instr) {
	switch in.Op {
	case 0x20:
		p.push(p.locals[in.A])
	case 0x21:
		p.locals[in.A] = p.pop()
	case 0x22:
		p.locals[in.A] = p.stack[len(p.stack)-1]
	case 0x23:
		p.push(p.w.globals[p.in.addrs[3][in.A]].Init.A)
	case 0x24:
		p.w.globals[p.in.addrs[3][in.A]].Init.A = p.pop()
	}
}

func (p *plainCall) reckon(o int) {
	if many, _, _ := num.Sig(o); many == 1 {
		n, _ := num.Un(o, p.pop())
		p.push(n)
		return
	}
	b, a := p.pop(), p.pop()
	n, trap, _ := num.Bin(o, a, b)
	check(trap == 0, trap)
	p.push(n)
}

func (p *plainCall) places(in api.Instr, t *plainTable) {
	within := func(t *plainTable, at, n int) { check(at+n <= len(t.l), api.TrapTable) }
	switch in.Op {
	case 0x25:
		at := p.pop()
		within(t, at, 1)
		p.push(t.l[at])
	case 0x26:
		ref, at := p.pop(), p.pop()
		within(t, at, 1)
		t.l[at] = ref
	case 0xFC0E:
		n, place, at := p.pop(), p.pop(), p.pop()
		other := p.w.tables[p.in.addrs[1][in.A]]
		within(t, at, n)
		within(other, place, n)
		third := slices.Clone(other.l[place : place+n])
		for i, ref := range third {
			t.l[at+i] = ref
		}
	case 0xFC0F:
		n, ref := p.pop(), p.pop()
		if len(t.l)+n > t.most {
			p.push(1<<32 - 1)
			return
		}
		p.push(len(t.l))
		t.l = append(t.l, slices.Repeat([]int{ref}, n)...)
	case 0xFC10:
		p.push(len(t.l))
	case 0xFC11:
		n, ref, at := p.pop(), p.pop(), p.pop()
		within(t, at, n)
		for i := range n {
			t.l[at+i] = ref
		}
	}
}

// width tells how many bytes an instruction loads or stores, with how many bits its number has, and whether with a sign.
func width(o int) (int, int, bool) {
	x := map[int][3]int{0x28: {4, 32}, 0x29: {8, 64}, 0x2C: {1, 32, 1}, 0x2D: {1, 32}, 0x2E: {2, 32, 1}, 0x2F: {2, 32}, 0x30: {1, 64, 1}, 0x31: {1, 64}, 0x32: {2, 64, 1}, 0x33: {2, 64}, 0x34: {4, 64, 1}, 0x35: {4, 64}, 0x36: {4}, 0x37: {8}, 0x3A: {1}, 0x3B: {2}, 0x3C: {1}, 0x3D: {2}, 0x3E: {4}}[o]
	return x[0], x[1], x[2] == 1
}

func (p *plainCall) bytes(in api.Instr, m *plainMem) {
	within := func(m *plainMem, at, n int) { check(at+n <= len(m.b), api.TrapMemory) }
	switch in.Op {
	case 0x3F:
		p.push(len(m.b) / 65536)
	case 0x40:
		n := p.pop()
		if len(m.b)/65536+n > m.most {
			p.push(1<<32 - 1)
			return
		}
		p.push(len(m.b) / 65536)
		m.b = append(m.b, make([]byte, 65536*n)...)
	case 0xFC0A:
		n, place, at := p.pop(), p.pop(), p.pop()
		other := p.w.mems[p.in.addrs[2][in.A]]
		within(m, at, n)
		within(other, place, n)
		copy(m.b[at:], string(other.b[place:place+n]))
	case 0xFC0B:
		n, v, at := p.pop(), p.pop(), p.pop()
		within(m, at, n)
		for i := range n {
			m.b[at+i] = byte(v)
		}
	default:
		n, bits, signed := width(in.Op)
		v := 0
		if bits == 0 {
			v = p.pop()
		}
		at := p.pop() + in.A
		within(m, at, n)
		if bits == 0 {
			for i := range n {
				m.b[at+i] = byte(v >> (8 * i))
			}
			return
		}
		for i := range n {
			v |= int(m.b[at+i]) << (8 * i)
		}
		if signed && m.b[at+n-1] > 127 {
			v -= 1 << (8 * n)
		}
		if bits == 32 {
			v &= 1<<32 - 1
		}
		p.push(v)
	}
}
