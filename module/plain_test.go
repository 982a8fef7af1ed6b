package module

import (
	"encoding/binary"
	"slices"
	"strings"
	"unicode/utf8"

	"scarf/api"
	"scarf/instr"
)

// head is how the chapter says that a module's bytes begin.
const head = "\x00\x61\x73\x6d\x01\x00\x00\x00"

// most is the greatest index.
const most = 1<<32 - 1

// number is the bytes of a number from 0 on, as few as there can be.
func number(n int) string { return string(binary.AppendUvarint(nil, uint64(n))) }

// counted is bytes with their number ahead of them.
func counted(s string) string { return number(len(s)) + s }

// section is a section of any content.
func section(which int, content string) string { return string([]byte{byte(which)}) + counted(content) }

// listed is a section of a list of n things that are alike.
func listed(which, n int, thing string) string {
	return section(which, number(n)+strings.Repeat(thing, n))
}

// plain reads a module by the chapter's words, with two places in the bytes and nothing else. It panics with the first fault.
type plain struct {
	s       string
	at, end int
	m       api.Module
}

func (p *plain) ask(holds bool, e api.Errno) {
	if !holds {
		panic(e)
	}
}

func (p *plain) byte() byte {
	p.ask(p.at < p.end, api.ErrForm)
	p.at++
	return p.s[p.at-1]
}

func (p *plain) number() int {
	n := uint64(0)
	for i := range 5 {
		c := p.byte()
		n += uint64(c&127) << (7 * i)
		if c < 128 {
			p.ask(n < 1<<32, api.ErrForm)
			return int(n)
		}
	}
	panic(api.ErrForm)
}

// span reads how many bytes there are, and then, within them, what a function reads.
func (p *plain) span(read func()) {
	n, end := p.number(), p.end
	p.ask(n <= end-p.at, api.ErrForm)
	p.end = p.at + n
	read()
	p.ask(p.at == p.end, api.ErrForm)
	p.end = end
}

func (p *plain) bytes() string {
	from := 0
	p.span(func() { from, p.at = p.at, p.end })
	return p.s[from:p.at]
}

func (p *plain) name() string {
	s := p.bytes()
	p.ask(utf8.ValidString(s), api.ErrForm)
	p.ask(len(s) <= 100, api.ErrFull)
	return s
}

func (p *plain) list(most int, read func()) {
	n := p.number()
	p.ask(n <= most, api.ErrFull)
	for range n {
		read()
	}
}

func (p *plain) typ() int {
	c := p.byte()
	switch c {
	case 0x7F, 0x7E, 0x70:
		return int(c)
	case 0x7D, 0x7C:
		panic(api.ErrFloat)
	case 0x7B:
		panic(api.ErrSimd)
	}
	panic(api.ErrForm)
}

func (p *plain) types() []int {
	var l []int
	p.list(32, func() { l = append(l, p.typ()) })
	return l
}

func (p *plain) instrs() []api.Instr {
	l, rest, e := instr.Take(p.s[p.at:p.end])
	p.ask(e == api.OK, e)
	p.at = p.end - len(rest)
	return l
}

func (p *plain) constant() api.Instr {
	l := p.instrs()
	p.ask(len(l) == 1, api.ErrConst)
	return l[0]
}

func (p *plain) limits() api.Limits {
	switch p.byte() {
	case 0:
		return api.Limits{Min: p.number(), Max: -1}
	case 1:
		least := p.number()
		return api.Limits{Min: least, Max: p.number()}
	}
	panic(api.ErrForm)
}

func (p *plain) table() api.Limits {
	p.ask(p.byte() == 0x70, api.ErrForm)
	return p.limits()
}

func (p *plain) kind() int {
	c := p.byte()
	p.ask(c <= 3, api.ErrForm)
	return int(c)
}

func (p *plain) yes() bool {
	c := p.byte()
	p.ask(c <= 1, api.ErrForm)
	return c == 1
}

func (p *plain) imported() api.Import {
	in := api.Import{Mod: p.name()}
	in.Name = p.name()
	in.Kind = p.kind()
	if in.Kind == 0 {
		in.T = p.number()
	} else if in.Kind == 1 {
		in.Lim = p.table()
	} else if in.Kind == 2 {
		in.Lim = p.limits()
	} else {
		in.T = p.typ()
		in.Mut = p.yes()
	}
	return in
}

func (p *plain) elem() api.Elem {
	e, which := api.Elem{}, p.number()
	p.ask(which == 0 || which == 2, api.ErrForm)
	if which == 2 {
		e.Table = p.number()
	}
	e.Off = p.constant()
	if which == 2 {
		p.ask(p.number() == 0, api.ErrForm)
	}
	p.list(1000, func() { e.F = append(e.F, p.number()) })
	return e
}

func (p *plain) data() api.Data {
	d, which := api.Data{}, p.number()
	p.ask(which == 0 || which == 2, api.ErrForm)
	if which == 2 {
		d.Mem = p.number()
	}
	d.Off = p.constant()
	d.B = p.bytes()
	return d
}

func (p *plain) code() api.Code {
	c := api.Code{}
	p.span(func() {
		p.list(most, func() {
			n := p.number()
			typ := p.typ()
			p.ask(len(c.Locals)+n <= 256, api.ErrFull)
			for range n {
				c.Locals = append(c.Locals, typ)
			}
		})
		c.L = p.instrs()
	})
	return c
}

// content reads what is in a section, but for the sections 0 and 12.
func (p *plain) content(which byte) {
	m := &p.m
	switch which {
	case 1:
		p.list(1000, func() {
			p.ask(p.byte() == 0x60, api.ErrForm)
			f := api.FuncType{P: p.types()}
			f.R = p.types()
			m.Types = append(m.Types, f)
		})
	case 2:
		p.list(1000, func() { m.Imports = append(m.Imports, p.imported()) })
	case 3:
		p.list(1000, func() { m.Funcs = append(m.Funcs, p.number()) })
	case 4:
		p.list(1000, func() { m.Tables = append(m.Tables, p.table()) })
	case 5:
		p.list(1000, func() { m.Mems = append(m.Mems, p.limits()) })
	case 6:
		p.list(1000, func() {
			g := api.Global{T: p.typ()}
			g.Mut = p.yes()
			g.Init = p.constant()
			m.Globals = append(m.Globals, g)
		})
	case 7:
		p.list(1000, func() {
			x := api.Export{Name: p.name()}
			x.Kind = p.kind()
			x.I = p.number()
			m.Exports = append(m.Exports, x)
		})
	case 8:
		m.Start = 1 + p.number()
	case 9:
		p.list(1000, func() { m.Elems = append(m.Elems, p.elem()) })
	case 10:
		p.list(1000, func() { m.Codes = append(m.Codes, p.code()) })
	case 11:
		p.list(1000, func() { m.Datas = append(m.Datas, p.data()) })
	default:
		panic(api.ErrForm)
	}
}

// read reads all bytes.
func (p *plain) read() {
	p.ask(len(p.s) <= 65536, api.ErrFull)
	for i := range len(head) {
		p.ask(p.byte() == head[i], api.ErrForm)
	}
	last, datas := -1, -1
	for p.at < p.end {
		which := p.byte()
		p.span(func() {
			switch which {
			case 0:
				p.name()
				p.at = p.end
			case 12:
				datas = p.number()
			default:
				p.content(which)
			}
		})
		if which == 0 {
			continue
		}
		now := strings.IndexByte("\x01\x02\x03\x04\x05\x06\x07\x08\x09\x0c\x0a\x0b", which)
		p.ask(now > last, api.ErrForm)
		last = now
	}
	p.ask(len(p.m.Codes) == len(p.m.Funcs), api.ErrForm)
	p.ask(datas < 0 || datas == len(p.m.Datas), api.ErrForm)
}

// plainTake is Take by the chapter's words.
func plainTake(s string) (m api.Module, e api.Errno) {
	p := &plain{s: s, end: len(s)}
	defer func() {
		if r := recover(); r != nil {
			m, e = api.Module{}, r.(api.Errno)
		}
	}()
	p.read()
	return p.m, api.OK
}

// dice throws numbers, the same ones in each run.
type dice uint64

func (d *dice) throw(n int) int {
	*d = *d*6364136223846793005 + 1442695040888963407
	return int(uint64(*d)>>33) % n
}

func pick[T any](d *dice, l []T) T { return l[d.throw(len(l))] }

// plainWriter writes a module by the chapter's words, or, if it has dice, in one of the other ways in which it may be read.
type plainWriter struct{ d *dice }

// often tells, with dice, once in n times that something is done in another way.
func (w plainWriter) often(n int) bool { return w.d != nil && w.d.throw(n) == 0 }

// number has up to five bytes.
func (w plainWriter) number(n int) string {
	s := []byte(number(n))
	for w.often(3) && len(s) < 5 {
		s[len(s)-1] |= 128
		s = append(s, 0)
	}
	return string(s)
}

func (w plainWriter) bytes(s string) string { return w.number(len(s)) + s }

func (w plainWriter) yes(b bool) string {
	if b {
		return "\x01"
	}
	return "\x00"
}

func (w plainWriter) limits(l api.Limits) string {
	if l.Max == -1 {
		return "\x00" + w.number(l.Min)
	}
	return "\x01" + w.number(l.Min) + w.number(l.Max)
}

func (w plainWriter) instrs(l ...api.Instr) string {
	s, _ := instr.Put(l)
	return s
}

func (w plainWriter) types(l []int) string {
	s := w.number(len(l))
	for _, t := range l {
		s += one(t)
	}
	return s
}

// one is a single byte.
func one(c int) string { return string([]byte{byte(c)}) }

func (w plainWriter) imported(in api.Import) string {
	s := w.bytes(in.Mod) + w.bytes(in.Name) + one(in.Kind)
	switch in.Kind {
	case 0:
		return s + w.number(in.T)
	case 1:
		return s + "\x70" + w.limits(in.Lim)
	case 2:
		return s + w.limits(in.Lim)
	}
	return s + one(in.T) + w.yes(in.Mut)
}

// where writes the beginning of an elem or a data: of the first table or memory in either way.
func (w plainWriter) where(n int) (string, bool) {
	if n > 0 || w.often(3) {
		return w.number(2) + w.number(n), true
	}
	return w.number(0), false
}

func (w plainWriter) elem(e api.Elem) string {
	s, named := w.where(e.Table)
	s += w.instrs(e.Off)
	if named {
		s += w.number(0)
	}
	s += w.number(len(e.F))
	for _, f := range e.F {
		s += w.number(f)
	}
	return s
}

func (w plainWriter) code(c api.Code) string {
	rows, s := 0, ""
	for i := 0; i < len(c.Locals); rows++ {
		if w.often(4) {
			s += w.number(0) + pick(w.d, []string{"\x7f", "\x7e", "\x70"})
			continue
		}
		n := 1
		for i+n < len(c.Locals) && c.Locals[i+n] == c.Locals[i] && !w.often(4) {
			n++
		}
		s += w.number(n) + one(c.Locals[i])
		i += n
	}
	return w.bytes(w.number(rows) + s + w.instrs(c.L...))
}

// section writes a section of a list, with others around it that say nothing.
func (w plainWriter) section(which int, things []string) string {
	s := ""
	for w.often(3) {
		s += "\x00" + w.bytes(w.bytes(pick(w.d, []string{"", "name", "\u20ac", strings.Repeat("n", 100)}))+pick(w.d, []string{"", "\x00", "\xff\x80any"}))
	}
	if len(things) > 0 || w.often(2) {
		s += one(which) + w.bytes(w.number(len(things))+strings.Join(things, ""))
	}
	return s
}

func texts[T any](l []T, one func(T) string) []string {
	var s []string
	for _, x := range l {
		s = append(s, one(x))
	}
	return s
}

func (w plainWriter) module(m api.Module) string {
	s := head
	s += w.section(1, texts(m.Types, func(f api.FuncType) string { return "\x60" + w.types(f.P) + w.types(f.R) }))
	s += w.section(2, texts(m.Imports, w.imported))
	s += w.section(3, texts(m.Funcs, w.number))
	s += w.section(4, texts(m.Tables, func(l api.Limits) string { return "\x70" + w.limits(l) }))
	s += w.section(5, texts(m.Mems, w.limits))
	s += w.section(6, texts(m.Globals, func(g api.Global) string { return one(g.T) + w.yes(g.Mut) + w.instrs(g.Init) }))
	s += w.section(7, texts(m.Exports, func(x api.Export) string { return w.bytes(x.Name) + one(x.Kind) + w.number(x.I) }))
	if m.Start > 0 {
		s += "\x08" + w.bytes(w.number(m.Start-1))
	}
	s += w.section(9, texts(m.Elems, w.elem))
	if w.often(2) {
		s += "\x0c" + w.bytes(w.number(len(m.Datas)))
	}
	s += w.section(10, texts(m.Codes, w.code))
	return s + w.section(11, texts(m.Datas, func(d api.Data) string {
		s, _ := w.where(d.Mem)
		return s + w.instrs(d.Off) + w.bytes(d.B)
	}))
}

// The modules are thrown field by field, from what may be.
func (d *dice) index() int {
	return pick(d, []int{0, 1, 5, 127, 128, 300, 16383, 16384, 1<<21 - 1, 1 << 21, 1<<28 - 1, 1 << 28, most - 1, most})
}

func (d *dice) typ() int { return pick(d, []int{0x7F, 0x7E, 0x70}) }

func (d *dice) name() string {
	return pick(d, []string{"", "a", "mod", "\u00e9\u20ac\U0001f600", "\x00", strings.Repeat("x", 100), strings.Repeat("\u20ac", 33) + "y"})
}

func (d *dice) limits() api.Limits {
	return api.Limits{Min: d.index(), Max: pick(d, []int{-1, -1, 0, 1, most, d.index()})}
}

func (d *dice) constant() api.Instr {
	return pick(d, []api.Instr{{Op: 0x41, A: -1}, {Op: 0x41, A: 1<<31 - 1}, {Op: 0x42, A: -1 << 63}, {Op: 0xD0}, {Op: 0xD2, A: d.index()}, {Op: 0x23, A: d.index()}, {Op: 0x01}, {Op: 0x02, A: -64}, {Op: 0x04, A: 3, L: []api.Instr{{Op: 0x01}}, E: []api.Instr{{Op: 0x01}, {Op: 0x00}}}})
}

func (d *dice) types(most int) []int {
	return some(d, most, func() int { return d.typ() })
}

func some[T any](d *dice, most int, one func() T) []T {
	var l []T
	for range d.throw(most + 1) {
		l = append(l, one())
	}
	return l
}

func (d *dice) imported() api.Import {
	in := api.Import{Mod: d.name(), Name: d.name(), Kind: d.throw(4)}
	switch in.Kind {
	case 0:
		in.T = d.index()
	case 1, 2:
		in.Lim = d.limits()
	case 3:
		in.T, in.Mut = d.typ(), d.throw(2) == 0
	}
	return in
}

func (d *dice) code() api.Code {
	c := api.Code{L: some(d, 5, d.constant)}
	for range d.throw(5) {
		c.Locals = append(c.Locals, slices.Repeat([]int{d.typ()}, d.throw(60))...)
	}
	return c
}

// module is one that may be laid, with up to so many things of each kind.
func (d *dice) module(most int) api.Module {
	m := api.Module{
		Types:   some(d, most, func() api.FuncType { return api.FuncType{P: d.types(32), R: d.types(3)} }),
		Imports: some(d, most, d.imported),
		Funcs:   some(d, most, d.index),
		Tables:  some(d, most, d.limits),
		Mems:    some(d, most, d.limits),
		Globals: some(d, most, func() api.Global {
			return api.Global{T: d.typ(), Mut: d.throw(2) == 0, Init: d.constant()}
		}),
		Exports: some(d, most, func() api.Export { return api.Export{Name: d.name(), Kind: d.throw(4), I: d.index()} }),
		Elems: some(d, most, func() api.Elem {
			return api.Elem{Table: pick(d, []int{0, d.index()}), Off: d.constant(), F: some(d, 5, d.index)}
		}),
		Datas: some(d, most, func() api.Data {
			return api.Data{Mem: pick(d, []int{0, d.index()}), Off: d.constant(), B: pick(d, []string{"", "b", "\xff\x00\x80", strings.Repeat("\x0b", 200)})}
		}),
	}
	for range m.Funcs {
		m.Codes = append(m.Codes, d.code())
	}
	if d.throw(2) == 0 {
		m.Start = 1 + d.index()
	}
	return m
}

// full is a module with each kind of thing, with fields that are all different where they can be.
func full() api.Module {
	c := func(n int) api.Instr { return api.Instr{Op: 0x41, A: n} }
	return api.Module{
		Types: []api.FuncType{{}, {P: []int{0x7F, 0x7E}, R: []int{0x70}}, {R: []int{0x7F}}},
		Imports: []api.Import{
			{Mod: "m", Name: "func", Kind: 0, T: 2}, {Mod: "m", Name: "table", Kind: 1, Lim: api.Limits{Min: 3, Max: -1}},
			{Mod: "\u20ac", Name: "mem", Kind: 2, Lim: api.Limits{Min: 1, Max: 300}}, {Mod: "", Name: "", Kind: 3, T: 0x7E, Mut: true},
		},
		Funcs:   []int{1, 0},
		Tables:  []api.Limits{{Min: 10, Max: 200}, {Min: 0, Max: -1}},
		Mems:    []api.Limits{{Min: 2, Max: -1}, {Min: 3, Max: 4}},
		Globals: []api.Global{{T: 0x7F, Mut: true, Init: c(-7)}, {T: 0x70, Init: api.Instr{Op: 0xD2, A: 1}}},
		Exports: []api.Export{{Name: "f", Kind: 0, I: 1}, {Name: "g", Kind: 3, I: 200}},
		Start:   2,
		Elems:   []api.Elem{{Off: c(5), F: []int{0, 1, 300}}, {Table: 1, Off: c(6)}},
		Codes: []api.Code{
			{Locals: []int{0x7F, 0x7F, 0x7E, 0x7F}, L: []api.Instr{{Op: 0x04, A: -64, L: []api.Instr{{Op: 0x0E, N: []int{0, 1}, A: 1}}, E: []api.Instr{{Op: 0x01}}}, {Op: 0xD0}}},
			{},
		},
		Datas: []api.Data{{Off: c(8), B: "bytes\xff"}, {Mem: 1, Off: c(9)}},
	}
}

// same tells whether two modules are alike; nil and empty lists are.
func same(a, b api.Module) bool {
	sameInstr := func(x, y api.Instr) bool { return sameInstrs([]api.Instr{x}, []api.Instr{y}) }
	return slices.EqualFunc(a.Types, b.Types, func(x, y api.FuncType) bool { return slices.Equal(x.P, y.P) && slices.Equal(x.R, y.R) }) &&
		slices.Equal(a.Imports, b.Imports) && slices.Equal(a.Funcs, b.Funcs) && slices.Equal(a.Tables, b.Tables) && slices.Equal(a.Mems, b.Mems) &&
		slices.EqualFunc(a.Globals, b.Globals, func(x, y api.Global) bool {
			return x.T == y.T && x.Mut == y.Mut && sameInstr(x.Init, y.Init)
		}) &&
		slices.Equal(a.Exports, b.Exports) && a.Start == b.Start &&
		slices.EqualFunc(a.Elems, b.Elems, func(x, y api.Elem) bool {
			return x.Table == y.Table && sameInstr(x.Off, y.Off) && slices.Equal(x.F, y.F)
		}) &&
		slices.EqualFunc(a.Codes, b.Codes, func(x, y api.Code) bool { return slices.Equal(x.Locals, y.Locals) && sameInstrs(x.L, y.L) }) &&
		slices.EqualFunc(a.Datas, b.Datas, func(x, y api.Data) bool { return x.Mem == y.Mem && x.B == y.B && sameInstr(x.Off, y.Off) })
}

func sameInstrs(a, b []api.Instr) bool {
	return slices.EqualFunc(a, b, func(x, y api.Instr) bool {
		return x.Op == y.Op && x.A == y.A && x.B == y.B && x.M == y.M && slices.Equal(x.N, y.N) && sameInstrs(x.L, y.L) && sameInstrs(x.E, y.E)
	})
}

// nothing tells whether a module is the zero one.
func nothing(m api.Module) bool { return same(m, api.Module{}) }

// times is a module with each of its things so many times.
func times(m api.Module, n int) api.Module {
	m.Types, m.Imports, m.Funcs = slices.Repeat(m.Types, n), slices.Repeat(m.Imports, n), slices.Repeat(m.Funcs, n)
	m.Tables, m.Mems, m.Globals = slices.Repeat(m.Tables, n), slices.Repeat(m.Mems, n), slices.Repeat(m.Globals, n)
	m.Exports, m.Elems, m.Codes, m.Datas = slices.Repeat(m.Exports, n), slices.Repeat(m.Elems, n), slices.Repeat(m.Codes, n), slices.Repeat(m.Datas, n)
	return m
}
