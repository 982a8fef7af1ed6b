package lift

import (
	"fmt"
	"slices"
	"strconv"
	"testing"

	"scarf/api"
	"scarf/mem"
	"scarf/store"
)

// of makes a type that has its kind alone, in one of others.
func of(kind int) api.Type                   { return api.Type{Kind: kind} }
func in(kind int, l ...api.Type) api.Type    { return api.Type{Kind: kind, L: l} }
func named(kind int, l ...api.Type) api.Type { return api.Type{Kind: kind, Names: some(len(l)), L: l} }

// some makes as many names.
func some(n int) []string {
	var l []string
	for i := range n {
		l = append(l, "n"+strconv.Itoa(i))
	}
	return l
}

func record(l ...api.Type) api.Type  { return named(api.TRecord, l...) }
func variant(l ...api.Type) api.Type { return named(api.TVariant, l...) }
func enum(n int) api.Type            { return api.Type{Kind: api.TEnum, Names: some(n)} }
func flags(n int) api.Type           { return api.Type{Kind: api.TFlags, Names: some(n)} }
func list(t api.Type) api.Type       { return in(api.TList, t) }
func option(t api.Type) api.Type     { return in(api.TOption, t) }
func tupled(l ...api.Type) api.Type  { return in(api.TTuple, l...) }
func result(a, b api.Type) api.Type  { return in(api.TResult, a, b) }
func own(r int) api.Type             { return api.Type{Kind: api.TOwn, R: r} }
func lent(r int) api.Type            { return api.Type{Kind: api.TBorrow, R: r} }

// times makes as many of something.
func times[T any](n int, x T) []T { return slices.Repeat([]T{x}, n) }

// both makes one list of two.
func both[T any](a []T, b ...T) []T { return slices.Concat(a, b) }

// nothing is no type; the simple ones by their names.
var (
	nothing = api.Type{}
	boolean = of(api.TBool)
	s8      = of(api.TS8)
	u8      = of(api.TU8)
	s16     = of(api.TS16)
	u16     = of(api.TU16)
	s32     = of(api.TS32)
	u32     = of(api.TU32)
	s64     = of(api.TS64)
	u64     = of(api.TU64)
	char    = of(api.TChar)
	words   = of(api.TString)
)

// val makes a value of a number, str one of characters, all one of values, sum one of a case.
func val(n int) api.Val               { return api.Val{N: n} }
func all(l ...api.Val) api.Val        { return api.Val{L: l} }
func sum(n int, l ...api.Val) api.Val { return api.Val{N: n, L: l} }
func str(s string) api.Val            { return api.Val{S: runes(s)} }

func runes(s string) []int {
	var l []int
	for _, c := range s {
		l = append(l, int(c))
	}
	return l
}

// deep makes a type that stands within as many others.
func deep(t api.Type, n int) api.Type {
	for range n {
		t = list(t)
	}
	return t
}

// takes makes a function of such arguments, gives one that gives something.
func takes(l ...api.Type) api.Sig { return api.Sig{Name: "f", P: some(len(l)), T: l} }
func gives(t api.Type) api.Sig    { return api.Sig{Name: "f", R: t} }

// bad are types that no value may have.
func bad() []api.Type {
	return []api.Type{
		nothing, of(-1), of(22), of(23), of(api.TList), in(api.TList, u8, u8), in(api.TList, nothing), in(api.TOption, nothing), in(api.TTuple), of(api.TRecord), of(api.TVariant), of(api.TOption), of(api.TResult),
		in(api.TResult, u8), {Kind: api.TEnum}, {Kind: api.TFlags}, flags(33), enum(65), {Kind: api.TU8, R: 1}, own(-1), lent(1<<20 + 1), deep(u8, 16), {Names: some(1)}, {R: 1}, {L: []api.Type{u8}},
		{Kind: api.TRecord, Names: some(1)}, {Kind: api.TRecord, Names: []string{"a", "a"}, L: []api.Type{u8, u8}}, {Kind: api.TEnum, Names: []string{"aB"}},
		{Kind: api.TU8, L: []api.Type{u8}}, {Kind: api.TString, Names: some(1)}, tupled(times(65, u8)...), record(times(64, record(times(8, u8)...))...),
	}
}

// badSigs are functions that may not be.
func badSigs() []api.Sig {
	l := []api.Sig{
		{P: some(1)}, {T: []api.Type{u8}}, {P: some(2), T: []api.Type{u8}}, {P: []string{"a", "a"}, T: []api.Type{u8, u8}}, {P: []string{""}, T: []api.Type{u8}}, {P: []string{"aB"}, T: []api.Type{u8}},
		takes(times(65, u8)...), {P: some(1), T: []api.Type{u8}, R: of(22)}, {P: some(1), T: []api.Type{words}, R: list(nothing)},
	}
	for _, t := range bad() {
		l = append(l, takes(t), takes(u8, t), takes(both(times(17, u8), t)...))
		if t.Kind != 0 || len(t.Names) > 0 || len(t.L) > 0 || t.R != 0 {
			l = append(l, gives(t), api.Sig{P: some(1), T: []api.Type{u8}, R: t}, api.Sig{P: some(9), T: times(9, words), R: t})
		}
	}
	return l
}

// short tells a thing as a text that is not long.
func short(x any) string {
	s := fmt.Sprint(x)
	return s[:min(len(s), 300)]
}

// equal tells whether two values are the same, nil and empty lists alike.
func equal(a, b api.Val) bool {
	return a.N == b.N && slices.Equal(a.S, b.S) && slices.EqualFunc(a.L, b.L, equal)
}

func isZero(v api.Val) bool { return v.N == 0 && v.S == nil && v.L == nil }

// blank is what a memory's bytes are at first, so that those that are laid are seen.
const blank = 0xA5

// page makes a memory of a page, all blank.
func page() *mem.Mem {
	m, _ := mem.New(api.Limits{Min: 1, Max: -1})
	m.Fill(0, blank, api.Page)
	return m
}

// bytesOf tells all bytes of a memory.
func bytesOf(m *mem.Mem) string {
	s, _ := m.Read(0, m.Pages()*api.Page)
	return s
}

// desk is a heap, and its memory.
type desk struct {
	*store.Heap
	m *mem.Mem
}

// heap makes one on a memory, with room at these places.
func heap(m *mem.Mem, enc int, at ...int) desk {
	h, e := store.Scripted(m, enc, at...)
	if h == nil || e != api.OK {
		panic(fmt.Sprint(enc, at, e))
	}
	return desk{h, m}
}

// patch is bytes that are laid at a place.
type patch struct {
	at int
	s  string
}

// with makes a heap without room, on a page in which there are such bytes.
func with(enc int, l ...patch) desk {
	m := page()
	for _, p := range l {
		if m.Write(p.at, p.s) != api.NoTrap {
			panic("beyond")
		}
	}
	return heap(m, enc)
}

// nums makes bytes of numbers of 32 bits.
func nums(l ...int) string {
	s := ""
	for _, n := range l {
		s += string([]byte{byte(n), byte(n >> 8), byte(n >> 16), byte(n >> 24)})
	}
	return s
}

// got looks whether values, or a trap, are those that are wanted.
func got(t *testing.T, l []api.Val, trap api.Trap, want []api.Val, stop api.Trap) {
	t.Helper()
	if trap != stop || !equal(all(l...), all(want...)) || trap != api.NoTrap && l != nil {
		t.Errorf("%s %d, not %s %d", short(l), trap, short(want), stop)
	}
}

// gotCore looks so at core values.
func gotCore(t *testing.T, l []int, trap api.Trap, want []int, stop api.Trap) {
	t.Helper()
	if trap != stop || !slices.Equal(l, want) || trap != api.NoTrap && l != nil {
		t.Errorf("%s %d, not %s %d", short(l), trap, short(want), stop)
	}
}

// lifts looks whether core values are lifted so, and nothing is changed by it.
func (h desk) lifts(t *testing.T, x api.Type, core []int, want api.Val) {
	t.Helper()
	was := bytesOf(h.m)
	l, trap := Lift(h.Heap, core, x)
	if trap != api.NoTrap || len(l) != 1 || !equal(l[0], want) {
		t.Errorf("%s of %s: %s %d, not %s", short(x), short(core), short(l), trap, short(want))
	}
	if bytesOf(h.m) != was || len(h.Wants()) != 0 {
		t.Error("changed", short(x))
	}
}

// stops looks whether the lifting is stopped by a trap.
func (h desk) stops(t *testing.T, x api.Type, core []int, want api.Trap) {
	t.Helper()
	if l, trap := Lift(h.Heap, core, x); trap != want || l != nil {
		t.Errorf("%s of %s: %s %d, not %d", short(x), short(core), short(l), trap, want)
	}
}

// is looks whether just these bytes of a memory are others than they were, and just that was asked for.
func (h desk) is(t *testing.T, was *mem.Mem, wants []api.Want, l ...patch) {
	t.Helper()
	want := was.Clone()
	for _, p := range l {
		want.Write(p.at, p.s)
	}
	a, b := bytesOf(h.m), bytesOf(want)
	if len(a) != len(b) {
		t.Fatal(len(a), "bytes, not", len(b))
	}
	for i := range len(a) {
		if a[i] != b[i] {
			t.Errorf("at %d: % x, not % x", i, a[i:min(len(a), i+16)], b[i:min(len(a), i+16)])
			break
		}
	}
	if l := h.Wants(); !slices.Equal(l, wants) {
		t.Errorf("wanted %v, not %v", l, wants)
	}
}

// lowers looks whether values are lowered as these core values, or stopped by a trap, just these bytes being laid, and just that being asked for.
func (h desk) lowers(t *testing.T, x []api.Type, l []api.Val, want []int, stop api.Trap, wants []api.Want, laid ...patch) {
	t.Helper()
	was := h.m.Clone()
	core, trap := Lower(h.Heap, l, x...)
	if trap != stop || !slices.Equal(core, want) || trap != api.NoTrap && core != nil {
		t.Errorf("%s %s: %s %d, not %s %d", short(x), short(l), short(core), trap, short(want), stop)
	}
	h.is(t, was, wants, laid...)
}
