package store

import (
	"encoding/binary"
	"slices"
	"unicode/utf16"
	"unicode/utf8"

	"scarf/api"
	"scarf/ctype"
	"scarf/value"
)

// A second reading of the chapter: bytes are a list, a trap is a panic, and how a type lies is asked at each value again.
type plain struct {
	b     []byte
	enc   int
	at    []int
	wants []api.Want
	parts int
}

// caught tells the trap that stopped a call.
func caught(call func()) (trap api.Trap) {
	defer func() {
		if x := recover(); x != nil {
			trap = x.(api.Trap)
		}
	}()
	call()
	return api.NoTrap
}

func unless(ok bool, trap api.Trap) {
	if !ok {
		panic(trap)
	}
}

func (p *plain) where(at, align, size int) {
	unless(at%align == 0, api.TrapAlign)
	unless(at >= 0 && at <= len(p.b) && size <= len(p.b) && at+size <= len(p.b), api.TrapBounds)
}

func (p *plain) give(align, size int) int {
	unless(align >= 1 && size >= 0 && size < 1<<32, api.TrapHost)
	unless(len(p.at) > 0, api.TrapHost)
	at := int(uint64(p.at[0]) % (1 << 32))
	p.at = p.at[1:]
	p.wants = append(p.wants, api.Want{Align: align, Size: size, At: at})
	p.where(at, align, size)
	return at
}

// read tells the number of so many bytes, without a sign.
func (p *plain) read(at, size int) int {
	b := make([]byte, 8)
	copy(b, p.b[at:at+size])
	return int(binary.LittleEndian.Uint64(b))
}

func (p *plain) write(at, size, n int) {
	b := binary.LittleEndian.AppendUint64(nil, uint64(n))
	copy(p.b[at:], b[:size])
}

func (p *plain) part() {
	p.parts++
	unless(p.parts <= 4000, api.TrapLength)
}

func (p *plain) load(t api.Type, at int) api.Val {
	unless(ctype.Check(t) == api.OK, api.TrapHost)
	p.where(at, ctype.Align(t), ctype.Size(t))
	p.parts = 0
	return p.value(t, at)
}

func (p *plain) value(t api.Type, at int) api.Val {
	p.part()
	n := p.read(at, min(8, ctype.Size(t)))
	switch t.Kind {
	case api.TBool:
		return num(min(1, n))
	case api.TS8:
		return num(int(int8(n)))
	case api.TS16:
		return num(int(int16(n)))
	case api.TS32:
		return num(int(int32(n)))
	case api.TChar:
		unless(n < 0x110000 && utf8.ValidRune(rune(n)), api.TrapChar)
	case api.TFlags:
		return num(n % (1 << len(t.Names)))
	case api.TString:
		return api.Val{S: p.text(p.read(at, 4), p.read(at+4, 4))}
	case api.TList:
		return all(p.list(t.L[0], p.read(at, 4), p.read(at+4, 4))...)
	case api.TRecord, api.TTuple:
		var v api.Val
		for i, place := range ctype.Places(t) {
			v.L = append(v.L, p.value(t.L[i], at+place))
		}
		return v
	case api.TEnum, api.TOption, api.TResult, api.TVariant:
		size, place := ctype.Case(t)
		v := num(p.read(at, size))
		unless(v.N < len(ctype.Plain(t).Names), api.TrapCase)
		if x := ctype.Plain(t).L[v.N]; x.Kind != 0 {
			v.L = append(v.L, p.value(x, at+place))
		}
		return v
	}
	return num(n)
}

func (p *plain) list(t api.Type, at, n int) []api.Val {
	unless(n <= 1000, api.TrapLength)
	p.where(at, ctype.Align(t), n*ctype.Size(t))
	var l []api.Val
	for range n {
		l = append(l, p.value(t, at))
		at += ctype.Size(t)
	}
	return l
}

func (p *plain) text(at, n int) []int {
	double := p.enc == api.EncUTF16
	if p.enc == api.EncLatin1 {
		double = n >= 1<<31
		n %= 1 << 31
	}
	unless(n <= 1000, api.TrapLength)
	size := n
	if double {
		size += n
	}
	p.where(at, textAlignOf(p.enc), size)
	l := decoded(p.enc, double, p.b[at:at+size])
	for range l {
		p.part()
	}
	return l
}

func textAlignOf(enc int) int { return []int{1, 2, 2}[enc] }

func decoded(enc int, double bool, b []byte) []int {
	var l []int
	switch {
	case double:
		var units []uint16
		for i := 0; i < len(b); i += 2 {
			units = append(units, binary.LittleEndian.Uint16(b[i:]))
		}
		r := utf16.Decode(units)
		unless(slices.Equal(utf16.Encode(r), units), api.TrapText)
		for _, c := range r {
			l = append(l, int(c))
		}
	case enc == api.EncUTF8:
		unless(utf8.Valid(b), api.TrapText)
		return runes(string(b))
	default:
		for _, c := range b {
			l = append(l, int(c))
		}
	}
	return l
}

func (p *plain) store(t api.Type, v api.Val, at int) {
	unless(value.Check(t, v) == api.OK, api.TrapHost)
	p.where(at, ctype.Align(t), ctype.Size(t))
	p.lay(t, v, at)
}

func (p *plain) lay(t api.Type, v api.Val, at int) {
	switch t.Kind {
	case api.TString:
		place, n := p.layText(v.S)
		p.write(at, 4, place)
		p.write(at+4, 4, n)
	case api.TList:
		p.write(at, 8, p.layList(t.L[0], v.L)+len(v.L)<<32)
	case api.TRecord, api.TTuple:
		for i, place := range ctype.Places(t) {
			p.lay(t.L[i], v.L[i], at+place)
		}
	case api.TEnum, api.TOption, api.TResult, api.TVariant:
		size, place := ctype.Case(t)
		p.write(at, size, v.N)
		if len(v.L) > 0 {
			p.lay(ctype.Plain(t).L[v.N], v.L[0], at+place)
		}
	default:
		p.write(at, ctype.Size(t), v.N)
	}
}

func (p *plain) layList(t api.Type, l []api.Val) int {
	place := p.give(ctype.Align(t), ctype.Size(t)*len(l))
	for i, v := range l {
		p.lay(t, v, place+i*ctype.Size(t))
	}
	return place
}

func (p *plain) layText(l []int) (int, int) {
	b, double := encoded(p.enc, l)
	n := len(b)
	if double {
		n /= 2
	}
	unless(n <= 1000, api.TrapLength)
	place := p.give(textAlignOf(p.enc), len(b))
	copy(p.b[place:], b)
	if double && p.enc == api.EncLatin1 {
		n += 1 << 31
	}
	return place, n
}

func encoded(enc int, l []int) ([]byte, bool) {
	var r []rune
	var b []byte
	for _, c := range l {
		r = append(r, rune(c))
		b = append(b, byte(c))
	}
	if enc == api.EncUTF8 {
		return []byte(string(r)), false
	}
	if enc == api.EncLatin1 && (len(l) == 0 || slices.Max(l) < 256) {
		return b, false
	}
	b = nil
	for _, u := range utf16.Encode(r) {
		b = binary.LittleEndian.AppendUint16(b, u)
	}
	return b, true
}

// The calls that are told of places, or of values, alone.

func (p *plain) loadText(at, n int) []int {
	unless(at == at&0xFFFFFFFF && n == n&0xFFFFFFFF, api.TrapHost)
	p.parts = 0
	return p.text(at, n)
}

func (p *plain) loadList(t api.Type, at, n int) []api.Val {
	unless(at == at&0xFFFFFFFF && n == n&0xFFFFFFFF && ctype.Check(t) == api.OK, api.TrapHost)
	p.parts = 0
	return p.list(t, at, n)
}

func (p *plain) putText(l []int) (int, int) {
	unless(value.Check(words, api.Val{S: l}) == api.OK, api.TrapHost)
	return p.layText(l)
}

func (p *plain) putList(t api.Type, l []api.Val) int {
	unless(value.Check(list(t), all(l...)) == api.OK, api.TrapHost)
	return p.layList(t, l)
}
