package store

import (
	"math"
	"math/rand"
	"slices"
	"testing"

	"scarf/api"
	"scarf/ctype"
	"scarf/mem"
	"scarf/value"
)

// maker makes types, values and bytes by chance.
type maker struct{ *rand.Rand }

func made(seed int) *maker { return &maker{rand.New(rand.NewSource(int64(seed)))} }

func one[T any](m *maker, l ...T) T { return l[m.Intn(len(l))] }

// some makes a number of things, most often a small one.
func (m *maker) some(most int) int {
	if m.Intn(60) == 0 {
		return m.Intn(most + 1)
	}
	return m.Intn(4)
}

// typ makes a type in which as many stand within one another, at most.
func (m *maker) typ(left int) api.Type {
	kind := 1 + m.Intn(21)
	if left <= 1 {
		kind = one(m, 1, 2, 3, 4, 5, 6, 7, 8, 9, 10, 11, 11, 16, 19, 20, 21)
	}
	many := func(of func() api.Type) []api.Type {
		l := []api.Type{of()}
		for range m.some(8) {
			l = append(l, of())
		}
		return l
	}
	inner := func() api.Type { return m.typ(left - 1 - m.Intn(2)) }
	switch kind {
	case api.TList:
		return list(inner())
	case api.TOption:
		return option(inner())
	case api.TTuple:
		return tuple(many(inner)...)
	case api.TRecord:
		return record(many(inner)...)
	case api.TVariant:
		return variant(many(func() api.Type { return m.orNone(left - 1) })...)
	case api.TResult:
		return result(m.orNone(left-1), m.orNone(left-1))
	case api.TEnum:
		return enum(1 + m.some(63))
	case api.TFlags:
		return flags(1 + m.Intn(32))
	case api.TOwn, api.TBorrow:
		return api.Type{Kind: kind, R: m.Intn(5)}
	}
	return of(kind)
}

func (m *maker) orNone(left int) api.Type {
	if m.Intn(3) == 0 {
		return nothing
	}
	return m.typ(left)
}

// bits makes a number of that many bits, signed one with a sign.
func (m *maker) bits(n int) int {
	most := 1<<n - 1
	return one(m, 0, 1&most, most, int(m.Uint64())&most)
}

func (m *maker) signed(n int) int {
	return one(m, 0, -1, -1<<(n-1), 1<<(n-1)-1, int(m.Uint64())<<(64-n)>>(64-n))
}

// chars makes a text, of wide characters, or of narrow ones alone.
func (m *maker) chars() []int {
	narrow := m.Intn(2) == 0
	n := m.some(1000)
	if m.Intn(60) == 0 {
		n = 300 + m.Intn(701)
	}
	var l []int
	for range n {
		c := one(m, int('a'), 0, 0x7F, 0x80, 0xFF, m.Intn(256))
		if !narrow {
			c = one(m, c, 0x100, 0x7FF, 0x800, 0xD7FF, 0xE000, 0xFFFF, 0x10000, 0x10FFFF)
		}
		l = append(l, c)
	}
	return l
}

// val makes a value of a type that may be.
func (m *maker) val(t api.Type) api.Val {
	var v api.Val
	switch t.Kind {
	case api.TString:
		v.S = m.chars()
	case api.TList:
		for range m.some(m.some(1000)) {
			v.L = append(v.L, m.val(t.L[0]))
		}
	case api.TRecord, api.TTuple:
		for _, x := range t.L {
			v.L = append(v.L, m.val(x))
		}
	case api.TEnum, api.TOption, api.TResult, api.TVariant:
		l := ctype.Plain(t).L
		v.N = m.Intn(len(l))
		if l[v.N].Kind != 0 {
			v.L = append(v.L, m.val(l[v.N]))
		}
	default:
		v.N = m.number(t)
	}
	return v
}

func (m *maker) number(t api.Type) int {
	switch t.Kind {
	case api.TBool:
		return m.bits(1)
	case api.TS8, api.TS16, api.TS32:
		return m.signed(8 * ctype.Size(t))
	case api.TChar:
		return one(m, int('a'), 0, 0xD7FF, 0xE000, 0x10FFFF)
	case api.TFlags:
		return m.bits(len(t.Names))
	case api.TS64, api.TU64:
		return m.signed(64)
	}
	return m.bits(8 * ctype.Size(t))
}

// both are a heap, and one of the second reading, on memories that are alike.
type both struct {
	h *Heap
	p *plain
}

// pair makes both, of a page; there is room at these places.
func pair(enc int, b []byte, at ...int) both {
	m, _ := mem.New(api.Limits{Min: 1, Max: -1})
	m.Write(0, string(b))
	return both{heap(m, enc, at...), &plain{b: append(slices.Clone(b), make([]byte, api.Page-len(b))...), enc: enc, at: at}}
}

// alike looks whether both have the same bytes, and were asked for the same.
func (x both) alike(t *testing.T) {
	t.Helper()
	s, _ := x.h.m.Read(0, api.Page)
	if s != string(x.p.b) || !slices.Equal(x.h.Wants(), x.p.wants) {
		t.Fatalf("not alike, of %d: %s", x.p.enc, short(x.p.wants))
	}
}

// load looks whether both read the same, which is a value of the type.
func (x both) load(t *testing.T, y api.Type, at int) (api.Val, api.Trap) {
	t.Helper()
	var want api.Val
	trap := caught(func() { want = x.p.load(y, at) })
	v, got := x.h.Load(y, at)
	if got != trap || !equal(v, want) || got != api.NoTrap && !isZero(v) {
		t.Fatalf("%s at %d: %s %d, not %s %d", short(y), at, short(v), got, short(want), trap)
	}
	if trap == api.NoTrap && value.Check(y, v) != api.OK {
		t.Fatalf("%s: %s", short(y), short(v))
	}
	return v, trap
}

// store looks whether both lay a value as the same bytes.
func (x both) store(t *testing.T, y api.Type, v api.Val, at int) api.Trap {
	t.Helper()
	want := caught(func() { x.p.store(y, v, at) })
	if trap := x.h.Store(y, v, at); trap != want {
		t.Fatalf("%s %s at %d: %d, not %d", short(y), short(v), at, trap, want)
	}
	x.alike(t)
	return want
}

// apart are places one behind the other, with bytes between them, from a place on.
func (m *maker) apart(at, n int) []int {
	var l []int
	for range n {
		l = append(l, at)
		at += 8 * (1 + m.Intn(600))
	}
	return l
}

// scattered are places of which most may be.
func (m *maker) scattered(n int) []int {
	var l []int
	for range n {
		l = append(l, one(m, 8*m.Intn(8192), 8*m.Intn(8192), 8*m.Intn(20), 8*m.Intn(8192), m.Intn(65536), 65536-m.Intn(40), 1<<32+8*m.Intn(8192), 8*m.Intn(9000)))
	}
	return l
}

// noise are bytes of small numbers, so that some of them are lengths, places and cases.
func (m *maker) noise(n int) []byte {
	b := make([]byte, n)
	for i := range b {
		if i%4 == 0 || m.Intn(8) == 0 {
			b[i] = byte(one(m, 0, 1, 2, 3, 8, 16, 64, 128, 'a', m.Intn(256)))
		}
	}
	return b
}

// Values by chance are laid, and read, as the second reading does it.
func TestRandomStore(t *testing.T) {
	count := map[api.Trap]int{}
	same := 0
	for seed := range 5000 {
		m := made(seed)
		x := m.typ(2 + m.Intn(6))
		v := m.val(x)
		room := m.scattered(one(m, 0, 1, 3, m.Intn(30), 2000))
		b := pair(m.Intn(3), m.noise(100+m.Intn(2000)), room...)
		at := 8 * m.Intn(100)
		if m.Intn(10) == 0 {
			at = one(m, m.Intn(100), 65536-m.Intn(30), -8, -1, 1<<32)
		}
		trap := b.store(t, x, v, at)
		count[trap]++
		if w, e := b.load(t, x, at); trap == api.NoTrap && e == api.NoTrap && equal(v, w) {
			same++
		}
	}
	for _, x := range []api.Trap{api.NoTrap, api.TrapHost, api.TrapAlign, api.TrapBounds} {
		if count[x] < 100 {
			t.Error(x, count)
		}
	}
	if count[api.TrapLength] == 0 || same < 1000 || len(count) != 5 {
		t.Error(count, same)
	}
}

// parts tells of how many a value is made.
func parts(v api.Val) int {
	n := 1 + len(v.S)
	for _, x := range v.L {
		n += parts(x)
	}
	return n
}

// What is stored is loaded as it was, where all room is apart from each other and from the place; no byte changes outside of these (17.7).
func TestRoundTrip(t *testing.T) {
	done := 0
	for seed := range 2000 {
		m := made(seed)
		x := m.typ(1 + m.Intn(6))
		v := m.val(x)
		s := play(bump...)
		h, e := Live(s, memory, giving, m.Intn(3), 1<<20)
		if e != api.OK {
			t.Fatal(e)
		}
		was := h.m.Clone()
		size := ctype.Size(x)
		at := 16
		if size > 900 || parts(v) > 500 {
			continue
		}
		if trap := h.Store(x, v, at); trap != api.NoTrap {
			if trap != api.TrapBounds || parts(v) < 200 {
				t.Fatal(short(x), short(v), trap)
			}
			continue
		}
		done++
		h.loads(t, x, at, v)
		// Each byte beside the place and the room is as it was; the parts are apart.
		l := append(h.Wants(), api.Want{Size: size, At: at})
		slices.SortFunc(l, func(a, b api.Want) int { return a.At - b.At })
		now, before := bytesOf(h.m), bytesOf(was)
		end := 0
		for _, w := range append(l, api.Want{At: len(now)}) {
			if w.At < end || now[end:w.At] != before[end:w.At] {
				t.Fatal("changed beside", l)
			}
			end = w.At + w.Size
		}
		// What is laid once more in another encoding, and read, is the same.
		other := alive(t, s, m.Intn(3), 1<<20)
		if other.Store(x, v, 0) == api.NoTrap {
			other.loads(t, x, 0, v)
		}
	}
	if done < 1500 {
		t.Error(done)
	}
}

// Bytes by chance, and values of which bytes were changed, are read as the second reading does it.
func TestRandomLoad(t *testing.T) {
	count := map[api.Trap]int{}
	for seed := range 8000 {
		m := made(seed)
		x := m.typ(1 + m.Intn(6))
		v := m.val(x)
		b := pair(m.Intn(3), m.noise(2000), m.apart(2048, 40)...)
		if m.Intn(3) > 0 && parts(v) < 100 {
			b.store(t, x, v, 64)
		}
		size := max(1, ctype.Size(x))
		for range m.Intn(4) {
			at := one(m, 64+m.Intn(size), 64+m.Intn(size), 2048+m.Intn(100))
			c := string([]byte{byte(one(m, 0, 1, 2, 3, 4, 0x80, 0xD8, 0xFF, m.Intn(256)))})
			b.h.m.Write(at, c)
			copy(b.p.b[at:], c)
		}
		_, trap := b.load(t, x, 64)
		count[trap]++
		at := one(m, 64, 8*m.Intn(100), m.Intn(2000), 65536-m.Intn(20), m.Intn(1<<17))
		_, trap = b.load(t, x, at)
		count[trap]++
		b.alike(t)
	}
	for _, x := range []api.Trap{api.NoTrap, api.TrapAlign, api.TrapBounds, api.TrapLength, api.TrapText, api.TrapChar, api.TrapCase} {
		if count[x] < 20 {
			t.Error(x, count)
		}
	}
	if len(count) != 7 {
		t.Error(count)
	}
}

// Places and lengths, texts and lists by chance.
func TestRandomSpans(t *testing.T) {
	count := map[api.Trap]int{}
	for seed := range 500 {
		m := made(seed)
		b := pair(m.Intn(3), m.noise(1000), m.scattered(400)...)
		for range 20 {
			at := one(m, m.Intn(1000), 8*m.Intn(100), 65536-m.Intn(20), m.Intn(1<<17), -1, 1<<32)
			n := one(m, 0, 1, 2, m.Intn(20), 1000, 1001, m.Intn(1002), -1, 1<<32)
			if m.Intn(3) == 0 {
				n += 1 << 31
			}
			var want []int
			trap := caught(func() { want = b.p.loadText(at, n) })
			text(t, b.h, at, n, trap, want...)
			count[trap]++
			x := m.typ(1 + m.Intn(3))
			if m.Intn(40) == 0 {
				x = one(m, bad()...)
			}
			var vals []api.Val
			trap = caught(func() { vals = b.p.loadList(x, at, n) })
			items(t, b.h, x, at, n, trap, vals...)
			count[trap]++
			b.puts(t, m, count)
		}
	}
	for _, x := range []api.Trap{api.NoTrap, api.TrapHost, api.TrapAlign, api.TrapBounds, api.TrapLength, api.TrapText, api.TrapChar, api.TrapCase} {
		if count[x] < 20 {
			t.Error(x, count)
		}
	}
}

// puts lays a text, and a list, and asks for room.
func (x both) puts(t *testing.T, m *maker, count map[api.Trap]int) {
	t.Helper()
	l := m.chars()
	if m.Intn(20) == 0 {
		l = append(l, one(m, -1, 0xD800, 0x110000))
	}
	var at, n int
	want := caught(func() { at, n = x.p.putText(l) })
	if a, b, trap := x.h.Text(l...); a != at || b != n || trap != want {
		t.Fatalf("%s: %d %d %d, not %d %d %d", short(l), a, b, trap, at, n, want)
	}
	count[want]++
	x.alike(t)
	y := m.typ(1 + m.Intn(3))
	var vals []api.Val
	for range m.some(50) {
		vals = append(vals, m.val(y))
	}
	if m.Intn(20) == 0 {
		vals = append(vals, one(m, num(-1), str("\U0001F600"), all(num(1), num(2))))
	}
	at = 0
	want = caught(func() { at = x.p.putList(y, vals) })
	if a, trap := x.h.List(y, vals...); a != at || trap != want {
		t.Fatalf("%s %s: %d %d, not %d %d", short(y), short(vals), a, trap, at, want)
	}
	count[want]++
	x.alike(t)
	align := one(m, 1, 2, 4, 8, 3, 0, -1, 1<<32, math.MinInt64)
	size := one(m, 0, 1, m.Intn(100), m.Intn(70000), -1, 1<<32-1, 1<<32, math.MaxInt64)
	at = 0
	want = caught(func() { at = x.p.give(align, size) })
	gave(t, x.h, align, size, at, want)
	x.alike(t)
}
