package instr

import (
	"math"
	"math/big"
	"slices"
	"strings"
	"testing"

	"scarf/api"
)

// row is opcodes, from the one to the other, with their shape, or their error.
type row struct {
	from, to, shape int
	e               api.Errno
}

// rows are the opcodes as the chapter, and chapters 3 and 4, list them, by numbers.
func rows() []row {
	return []row{
		{0x00, 0x01, 1, 0}, {0x0F, 0x0F, 1, 0}, {0x1A, 0x1B, 1, 0}, {0xD1, 0xD1, 1, 0},
		{0x45, 0x5A, 1, 0}, {0x67, 0x8A, 1, 0}, {0xA7, 0xA7, 1, 0}, {0xAC, 0xAD, 1, 0}, {0xC0, 0xC4, 1, 0},
		{0x02, 0x04, 2, 0},
		{0x0C, 0x0D, 3, 0}, {0x10, 0x10, 3, 0}, {0x20, 0x24, 3, 0}, {0xD2, 0xD2, 3, 0},
		{0x0E, 0x0E, 4, 0},
		{0x11, 0x11, 5, 0},
		{0x1C, 0x1C, 6, 0},
		{0x28, 0x29, 7, 0}, {0x2C, 0x37, 7, 0}, {0x3A, 0x3E, 7, 0},
		{0x25, 0x26, 8, 0}, {0x3F, 0x40, 8, 0}, {0xFC0B, 0xFC0B, 8, 0}, {0xFC0F, 0xFC11, 8, 0},
		{0xFC0A, 0xFC0A, 9, 0}, {0xFC0E, 0xFC0E, 9, 0},
		{0x41, 0x42, 10, 0},
		{0xD0, 0xD0, 11, 0},
		{0x2A, 0x2B, 0, api.ErrFloat}, {0x38, 0x39, 0, api.ErrFloat}, {0x43, 0x44, 0, api.ErrFloat}, {0x5B, 0x66, 0, api.ErrFloat}, {0x8B, 0xA6, 0, api.ErrFloat},
		{0xA8, 0xAB, 0, api.ErrFloat}, {0xAE, 0xBF, 0, api.ErrFloat}, {0xFC00, 0xFC07, 0, api.ErrFloat},
		{0xFD, 0xFD, 0, api.ErrSimd},
	}
}

// opcodes are all that have a shape.
func opcodes() []int {
	var l []int
	for _, r := range rows() {
		for op := r.from; op <= r.to && r.e == api.OK; op++ {
			l = append(l, op)
		}
	}
	return l
}

// book tells of what rows say of an opcode at once.
type book map[int]row

func newBook() book {
	b := book{}
	for _, r := range rows() {
		for op := r.from; op <= r.to; op++ {
			b[op] = r
		}
	}
	return b
}

func (b book) shape(op int) (int, api.Errno) {
	if r, ok := b[op]; ok {
		return r.shape, r.e
	}
	return 0, api.ErrOp
}

// plainType is Type by the chapter's words.
func plainType(c int) (int, api.Errno) {
	for _, x := range []struct {
		c int
		e api.Errno
	}{{0x7F, api.OK}, {0x7E, api.OK}, {0x70, api.OK}, {0x7D, api.ErrFloat}, {0x7C, api.ErrFloat}, {0x7B, api.ErrSimd}} {
		if x.c == c && x.e == api.OK {
			return c, api.OK
		} else if x.c == c {
			return 0, x.e
		}
	}
	return 0, api.ErrForm
}

// edges are the numbers at which something in the chapter comes to its end, with their neighbours, and great ones.
func edges() []int {
	l := []int{math.MinInt, math.MinInt + 1, math.MaxInt, math.MaxInt - 1}
	for _, n := range []int{0, 16, -16, 32, 40, 63, 64, -64, -128, 127, 128, 0x70, 0x7B, 0x7D, 1000, 8192, 1 << 14, 1 << 21, 1 << 28, 1 << 31, -1 << 31, 1<<32 - 1, 1 << 32, -1 << 32, 1 << 62, -1 << 62} {
		for d := -3; d <= 3; d++ {
			l = append(l, n+d)
		}
	}
	slices.Sort(l)
	return slices.Compact(l)
}

// plainMay tells whether an instruction may be, but for what stands within it, by the chapter's table.
func (b book) plainMay(in api.Instr) bool {
	shape, e := b.shape(in.Op)
	if e != api.OK {
		return false
	}
	index := func(n int) bool { return n >= 0 && n < 1<<32 }
	zero := func(l ...int) bool { return !slices.ContainsFunc(l, func(n int) bool { return n != 0 }) }
	none := len(in.N) == 0 && len(in.L) == 0 && len(in.E) == 0
	switch shape {
	case 1, 11:
		return none && zero(in.A, in.B, in.M)
	case 2:
		return (index(in.A) || in.A == -64 || in.A == -1 || in.A == -2 || in.A == -16) && zero(in.B, in.M) && len(in.N) == 0 && (in.Op == 4 || len(in.E) == 0)
	case 3:
		return none && index(in.A) && zero(in.B, in.M)
	case 4:
		all := !slices.ContainsFunc(in.N, func(n int) bool { return !index(n) })
		return all && len(in.N) <= 1000 && len(in.L) == 0 && len(in.E) == 0 && index(in.A) && zero(in.B, in.M)
	case 5, 9:
		return none && index(in.A) && index(in.M) && zero(in.B)
	case 6:
		return none && (in.A == 0x7F || in.A == 0x7E || in.A == 0x70) && zero(in.B, in.M)
	case 7:
		return none && index(in.A) && index(in.M) && in.B >= 0 && in.B <= 63
	case 8:
		return none && index(in.M) && zero(in.A, in.B)
	}
	return none && zero(in.B, in.M) && (in.Op == 0x42 || in.A >= -1<<31 && in.A < 1<<31)
}

// plain reads bytes by the chapter's words: one behind the other, with a stack of its own, and numbers of any length. It panics with the first fault.
type plain struct {
	book
	s  string
	at int
}

func (p *plain) byte() int {
	if p.at == len(p.s) {
		panic(api.ErrForm)
	}
	p.at++
	return int(p.s[p.at-1])
}

// number reads a number of at most so many bytes, from least to below 2^bits.
func (p *plain) number(most int, signed bool, least *big.Int, bits uint) int {
	sum, one := new(big.Int), big.NewInt(1)
	for i := range most {
		c := p.byte()
		sum.Add(sum, new(big.Int).Lsh(big.NewInt(int64(c&127)), uint(7*i)))
		if c >= 128 {
			continue
		}
		if signed && c&64 != 0 {
			sum.Sub(sum, new(big.Int).Lsh(one, uint(7*i+7)))
		}
		if sum.Cmp(least) < 0 || sum.Cmp(new(big.Int).Lsh(one, bits)) >= 0 {
			panic(api.ErrForm)
		}
		return int(sum.Int64())
	}
	panic(api.ErrForm)
}

func (p *plain) index() int { return p.number(5, false, big.NewInt(0), 32) }

func (p *plain) typ() int {
	typ, e := plainType(p.byte())
	if e != api.OK {
		panic(e)
	}
	return typ
}

// block reads a block's type.
func (p *plain) block() int {
	c := p.byte()
	switch {
	case c == 0x40:
		return -64
	case c > 0x40 && c < 0x80:
		p.at--
		return p.typ() - 128
	}
	p.at--
	return p.number(5, true, big.NewInt(0), 32)
}

// fields reads what is behind an opcode.
func (p *plain) fields(in api.Instr, shape int) api.Instr {
	switch shape {
	case 2:
		in.A = p.block()
	case 3:
		in.A = p.index()
	case 4:
		n := p.index()
		if n > 1000 {
			panic(api.ErrFull)
		}
		for range n {
			in.N = append(in.N, p.index())
		}
		in.A = p.index()
	case 5:
		in.A = p.index()
		in.M = p.index()
	case 6:
		if p.index() != 1 {
			panic(api.ErrForm)
		}
		in.A = p.typ()
	case 7:
		align := p.index()
		if align >= 128 {
			panic(api.ErrForm)
		}
		in.B = align % 64
		if align >= 64 {
			in.M = p.index()
		}
		in.A = p.index()
	case 8:
		in.M = p.index()
	case 9:
		in.M = p.index()
		in.A = p.index()
	case 10:
		most, bits := 5, uint(31)
		if in.Op == 0x42 {
			most, bits = 10, 63
		}
		in.A = p.number(most, true, new(big.Int).Neg(new(big.Int).Lsh(big.NewInt(1), bits)), bits)
	case 11:
		if p.typ() != 0x70 {
			panic(api.ErrForm)
		}
	}
	return in
}

// open is a block that is read: what it is, the list of it that is being read.
type open struct {
	in   api.Instr
	list []api.Instr
	els  bool
}

// closed is the block with its lists.
func (o open) closed() api.Instr {
	if o.els {
		o.in.E = o.list
	} else {
		o.in.L = o.list
	}
	return o.in
}

// read reads instructions up to the last End.
func (p *plain) read() []api.Instr {
	stack, count := []open{{}}, 0
	for {
		top := &stack[len(stack)-1]
		op := p.byte()
		switch {
		case op == 0x0B && len(stack) == 1:
			return top.list
		case op == 0x0B:
			in := top.closed()
			stack = stack[:len(stack)-1]
			below := &stack[len(stack)-1]
			below.list = append(below.list, in)
			continue
		case op == 0x05:
			if top.in.Op != 4 || top.els {
				panic(api.ErrForm)
			}
			top.in.L, top.list, top.els = top.list, nil, true
			continue
		case op == 0xFC:
			op = 0xFC00 + p.index()
		}
		shape, e := p.shape(op)
		if e != api.OK {
			panic(e)
		}
		in := p.fields(api.Instr{Op: op}, shape)
		if count++; count > 8192 {
			panic(api.ErrFull)
		}
		if shape != 2 {
			top.list = append(top.list, in)
			continue
		}
		if len(stack) > 32 {
			panic(api.ErrFull)
		}
		stack = append(stack, open{in: in})
	}
}

// plainTake is Take by the chapter's words.
func (b book) plainTake(s string) (l []api.Instr, rest string, e api.Errno) {
	defer func() {
		if r := recover(); r != nil {
			l, rest, e = nil, "", r.(api.Errno)
		}
	}()
	p := &plain{book: b, s: s}
	l = p.read()
	return l, s[p.at:], api.OK
}

// same tells whether two lists of instructions are alike; nil and empty lists are.
func same(a, b []api.Instr) bool {
	return slices.EqualFunc(a, b, func(x, y api.Instr) bool {
		return x.Op == y.Op && x.A == y.A && x.B == y.B && x.M == y.M && slices.Equal(x.N, y.N) && same(x.L, y.L) && same(x.E, y.E)
	})
}

// deep is a copy that shares nothing.
func deep(l []api.Instr) []api.Instr {
	l = slices.Clone(l)
	for i := range l {
		l[i].N, l[i].L, l[i].E = slices.Clone(l[i].N), deep(l[i].L), deep(l[i].E)
	}
	return l
}

// total counts instructions, those within others, too.
func total(l []api.Instr) int {
	n := len(l)
	for _, in := range l {
		n += total(in.L) + total(in.E)
	}
	return n
}

// some is an instruction of each opcode that has a shape, with fields that are all different, where it has them.
func some() []api.Instr {
	var l []api.Instr
	b := newBook()
	for i, op := range opcodes() {
		in := api.Instr{Op: op}
		switch shape, _ := b.shape(op); shape {
		case 2:
			in.A, in.L = 70+i, []api.Instr{{Op: 0x01}, {Op: 0x20, A: i}}
			if op == 4 {
				in.A, in.E = -2, []api.Instr{{Op: 0x0F}}
			}
		case 3:
			in.A = 300 + i
		case 4:
			in.N, in.A = []int{5, 128, i, 1<<32 - 1}, 7
		case 5, 9:
			in.A, in.M = 200+i, 9
		case 6:
			in.A = api.I64
		case 7:
			in.A, in.B, in.M = 1000+i, i%64, i%3
		case 8:
			in.M = 1 + i
		case 10:
			in.A = -100 - i
		}
		l = append(l, in)
	}
	return l
}

// nops is as many instructions that do nothing.
func nops(n int) []api.Instr { return slices.Repeat([]api.Instr{{Op: 0x01}}, n) }

// nest is so many blocks in one another, of all kinds, within the first part and within the other.
func nest(n int, inmost []api.Instr) []api.Instr {
	for i := range n {
		switch i % 4 {
		case 0:
			inmost = []api.Instr{{Op: 0x02, A: -64, L: inmost}}
		case 1:
			inmost = []api.Instr{{Op: 0x04, A: -64, E: inmost}}
		case 2:
			inmost = []api.Instr{{Op: 0x03, A: -64, L: inmost}}
		case 3:
			inmost = []api.Instr{{Op: 0x04, A: -64, L: inmost}}
		}
	}
	return inmost
}

// dice throws numbers, the same ones in each run.
type dice uint64

func (d *dice) throw(n int) int {
	*d = *d*6364136223846793005 + 1442695040888963407
	return int(uint64(*d)>>33) % n
}

// pick is one of a list.
func pick[T any](d *dice, l []T) T { return l[d.throw(len(l))] }

// instrs are instructions that may be, of all kinds, so many at most, within so many blocks.
func (d *dice) instrs(b book, ops, numbers []int, most, blocks int) []api.Instr {
	var l []api.Instr
	for range d.throw(most + 1) {
		in := api.Instr{Op: pick(d, ops)}
		// Fields are tried till they may be: most of the edges are of none of the kinds.
		for tries := 0; ; tries++ {
			shape, _ := b.shape(in.Op)
			d.fields(&in, shape, numbers)
			if b.plainMay(in) {
				break
			}
			if tries == 1000 {
				panic("no fields")
			}
		}
		if in.Op >= 2 && in.Op <= 4 {
			if blocks == 32 {
				continue
			}
			in.L = d.instrs(b, ops, numbers, most/2, blocks+1)
			if in.Op == 4 {
				in.E = d.instrs(b, ops, numbers, most/2, blocks+1)
			}
		}
		l = append(l, in)
	}
	return l
}

// fields throws an instruction's fields.
func (d *dice) fields(in *api.Instr, shape int, numbers []int) {
	switch shape {
	case 2, 3, 6, 10:
		in.A = pick(d, numbers)
	case 4:
		in.N, in.A = nil, pick(d, numbers)
		for range d.throw(4) {
			in.N = append(in.N, pick(d, numbers))
		}
	case 5, 9:
		in.A, in.M = pick(d, numbers), pick(d, numbers)
	case 7:
		in.A, in.B, in.M = pick(d, numbers), d.throw(64), pick(d, numbers)
	case 8:
		in.M = pick(d, numbers)
	}
}

// takes asks whether Take tells of bytes what the chapter's words do.
func takes(t *testing.T, b book, s string) {
	t.Helper()
	wl, wrest, we := b.plainTake(s)
	l, rest, e := Take(s)
	if !same(l, wl) || rest != wrest || e != we {
		shown := s
		if len(shown) > 80 {
			shown = s[:80]
		}
		t.Fatalf("Take(%x): %v %x %d, want %v %x %d", shown, l, rest, e, wl, wrest, we)
	}
}

// repeat is bytes, so many times.
func repeat(s string, n int) string { return strings.Repeat(s, n) }
