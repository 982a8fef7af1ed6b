package store

import (
	"fmt"
	"slices"
	"strconv"
	"testing"

	"scarf/api"
	"scarf/mem"
)

// of makes a type that has its kind alone, in one of others.
func of(kind int) api.Type                   { return api.Type{Kind: kind} }
func in(kind int, l ...api.Type) api.Type    { return api.Type{Kind: kind, L: l} }
func named(kind int, l ...api.Type) api.Type { return api.Type{Kind: kind, Names: some(len(l)), L: l} }

// some makes as many names.
func some(n int) []string {
	var l []string
	for i := range n {
		l = append(l, "n"+strconv.Itoa(i))
	}
	return l
}

func record(l ...api.Type) api.Type  { return named(api.TRecord, l...) }
func variant(l ...api.Type) api.Type { return named(api.TVariant, l...) }
func enum(n int) api.Type            { return api.Type{Kind: api.TEnum, Names: some(n)} }
func flags(n int) api.Type           { return api.Type{Kind: api.TFlags, Names: some(n)} }
func list(t api.Type) api.Type       { return in(api.TList, t) }
func option(t api.Type) api.Type     { return in(api.TOption, t) }
func tuple(l ...api.Type) api.Type   { return in(api.TTuple, l...) }
func result(a, b api.Type) api.Type  { return in(api.TResult, a, b) }
func own(r int) api.Type             { return api.Type{Kind: api.TOwn, R: r} }
func lent(r int) api.Type            { return api.Type{Kind: api.TBorrow, R: r} }

// times makes as many of something.
func times[T any](n int, x T) []T { return slices.Repeat([]T{x}, n) }

// nothing is no type; the simple ones by their names.
var (
	nothing = api.Type{}
	boolean = of(api.TBool)
	s8      = of(api.TS8)
	u8      = of(api.TU8)
	s16     = of(api.TS16)
	u16     = of(api.TU16)
	s32     = of(api.TS32)
	u32     = of(api.TU32)
	s64     = of(api.TS64)
	u64     = of(api.TU64)
	char    = of(api.TChar)
	words   = of(api.TString)
)

// num makes a value of a number, str one of characters, all one of values, sum one of a case.
func num(n int) api.Val               { return api.Val{N: n} }
func all(l ...api.Val) api.Val        { return api.Val{L: l} }
func sum(n int, l ...api.Val) api.Val { return api.Val{N: n, L: l} }
func str(s string) api.Val            { return api.Val{S: runes(s)} }

func runes(s string) []int {
	var l []int
	for _, c := range s {
		l = append(l, int(c))
	}
	return l
}

// deep makes a type that stands within as many others.
func deep(t api.Type, n int) api.Type {
	for range n {
		t = list(t)
	}
	return t
}

// bad are types that no value may have.
func bad() []api.Type {
	return []api.Type{
		nothing, of(-1), of(22), of(23), of(api.TList), in(api.TList, u8, u8), in(api.TList, nothing), in(api.TOption, nothing), in(api.TTuple),
		in(api.TResult, u8), {Kind: api.TEnum}, {Kind: api.TFlags}, flags(33), enum(65), {Kind: api.TU8, R: 1}, own(-1), lent(1<<20 + 1), deep(u8, 16),
		{Kind: api.TRecord, Names: some(1)}, {Kind: api.TRecord, Names: []string{"a", "a"}, L: []api.Type{u8, u8}}, {Kind: api.TEnum, Names: []string{"aB"}},
		{Kind: api.TU8, L: []api.Type{u8}}, {Kind: api.TString, Names: some(1)}, tuple(times(65, u8)...), record(times(64, record(times(8, u8)...))...),
	}
}

// short tells a thing as a text that is not long.
func short(x any) string {
	s := fmt.Sprint(x)
	return s[:min(len(s), 300)]
}

// equal tells whether two values are the same, nil and empty lists alike.
func equal(a, b api.Val) bool {
	return a.N == b.N && slices.Equal(a.S, b.S) && slices.EqualFunc(a.L, b.L, equal)
}

func isZero(v api.Val) bool { return v.N == 0 && v.S == nil && v.L == nil }

// blank is what a memory's bytes are at first, so that those that are laid are seen.
const blank = 0xA5

// page makes a memory of a page, all blank.
func page() *mem.Mem {
	m, _ := mem.New(api.Limits{Min: 1, Max: -1})
	m.Fill(0, blank, api.Page)
	return m
}

// bytesOf tells all bytes of a memory.
func bytesOf(m *mem.Mem) string {
	s, _ := m.Read(0, m.Pages()*api.Page)
	return s
}

// heap makes one on a memory, of which all may be.
func heap(m *mem.Mem, enc int, at ...int) *Heap {
	h, e := Scripted(m, enc, at...)
	if h == nil || e != api.OK {
		panic(fmt.Sprint(enc, at, e))
	}
	return h
}

// with makes a heap on a page in which there are bytes at a place.
func with(enc, at int, s string, room ...int) *Heap {
	m := page()
	if m.Write(at, s) != api.NoTrap {
		panic("beyond")
	}
	return heap(m, enc, room...)
}

// nums makes bytes of numbers of 32 bits.
func nums(l ...int) string {
	s := ""
	for _, n := range l {
		s += string([]byte{byte(n), byte(n >> 8), byte(n >> 16), byte(n >> 24)})
	}
	return s
}

// loads looks whether a value is read, and that nothing is changed by it.
func (h *Heap) loads(t *testing.T, x api.Type, at int, want api.Val) {
	t.Helper()
	was := bytesOf(h.m)
	if v, trap := h.Load(x, at); trap != api.NoTrap || !equal(v, want) {
		t.Errorf("%s at %d: %s %d, not %s", short(x), at, short(v), trap, short(want))
	}
	if bytesOf(h.m) != was {
		t.Error("changed by a load", short(x))
	}
}

// fails looks whether the reading of a value is stopped by a trap.
func (h *Heap) fails(t *testing.T, x api.Type, at int, want api.Trap) {
	t.Helper()
	if v, trap := h.Load(x, at); trap != want || !isZero(v) {
		t.Errorf("%s at %d: %s %d, not %d", short(x), at, short(v), trap, want)
	}
}

// patch is bytes that are laid at a place.
type patch struct {
	at int
	s  string
}

// lays looks whether a value is laid, or stopped by a trap, just these bytes of the memory being changed, and just that being asked for.
func (h *Heap) lays(t *testing.T, x api.Type, v api.Val, at int, want api.Trap, wants []api.Want, l ...patch) {
	t.Helper()
	m := h.m.Clone()
	for _, p := range l {
		m.Write(p.at, p.s)
	}
	if trap := h.Store(x, v, at); trap != want {
		t.Errorf("%s %s at %d: %d, not %d", short(x), short(v), at, trap, want)
	}
	h.is(t, m, wants)
}

// is looks whether a heap's memory is another one's, and what was asked for.
func (h *Heap) is(t *testing.T, m *mem.Mem, wants []api.Want) {
	t.Helper()
	a, b := bytesOf(h.m), bytesOf(m)
	if len(a) != len(b) {
		t.Fatal(len(a), "bytes, not", len(b))
	}
	for i := range len(a) {
		if a[i] != b[i] {
			t.Errorf("at %d: % x, not % x", i, a[i:min(len(a), i+16)], b[i:min(len(a), i+16)])
			break
		}
	}
	if l := h.Wants(); !slices.Equal(l, wants) {
		t.Errorf("wanted %v, not %v", l, wants)
	}
}
