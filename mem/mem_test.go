package mem

import (
	"encoding/binary"
	"math"
	"strings"
	"testing"

	"scarf/api"
)

// op is an instruction: its opcode, how many bytes it loads or stores, of which type, whether with a sign, and whether it stores.
type op struct {
	code, width, typ int
	signed, stores   bool
}

// ops are the instructions, as the chapter lists them.
func ops() []op {
	return []op{
		{0x28, 4, api.I32, false, false}, {0x29, 8, api.I64, false, false},
		{0x2C, 1, api.I32, true, false}, {0x2D, 1, api.I32, false, false}, {0x2E, 2, api.I32, true, false}, {0x2F, 2, api.I32, false, false},
		{0x30, 1, api.I64, true, false}, {0x31, 1, api.I64, false, false}, {0x32, 2, api.I64, true, false}, {0x33, 2, api.I64, false, false},
		{0x34, 4, api.I64, true, false}, {0x35, 4, api.I64, false, false},
		{0x36, 4, api.I32, false, true}, {0x37, 8, api.I64, false, true}, {0x3A, 1, api.I32, false, true}, {0x3B, 2, api.I32, false, true},
		{0x3C, 1, api.I64, false, true}, {0x3D, 2, api.I64, false, true}, {0x3E, 4, api.I64, false, true},
	}
}

// loads are those that load, stores those that store.
func loads() []op { return some(false) }

func stores() []op { return some(true) }

func some(stores bool) []op {
	var l []op
	for _, o := range ops() {
		if o.stores == stores {
			l = append(l, o)
		}
	}
	return l
}

// none are opcodes that neither load nor store: all of a byte that are not listed, and others that would, were they cut to fewer bits.
func none() []int {
	listed := map[int]bool{}
	for _, o := range ops() {
		listed[o.code] = true
	}
	var l []int
	for code := -0x200; code < 0x400; code++ {
		if !listed[code] {
			l = append(l, code)
		}
	}
	for code := range listed {
		l = append(l, -code, code+0x10000, code+1<<32, code|math.MinInt)
	}
	return append(l, 0xFC28, 0xFC36, 0xFC0A, 0xFC0B, math.MaxInt, math.MinInt, math.MinInt+1)
}

// great are places, and numbers of bytes, of pages and of limits, that are beyond all that there is, or would be within, were they cut to fewer bits, or put to others beyond 2^63.
func great() []int {
	return []int{
		math.MaxInt, math.MaxInt - 1, math.MaxInt - 7, math.MaxInt - 8, math.MaxInt - api.Page, math.MaxInt - api.Page + 1, math.MinInt, math.MinInt + 1, math.MinInt + 8, math.MinInt + api.Page,
		1 << 31, 1<<31 - 1, 1<<31 + 1, -1 << 31, 1 << 32, 1<<32 - 1, 1<<32 + 1, 1<<32 - 4, -1 << 32, 1<<32 - api.Page, 1 << 40, 1 << 47, 1<<47 + 1, 1 << 48, 1<<48 + 1, 1 << 62, -1 << 62,
		16*api.Page + 1, 17 * api.Page, 1 << 24, -api.Page, -api.Page - 1, -2, -1,
	}
}

// made is a memory of such limits, whose bytes are all different from those beside them.
func made(t *testing.T, min, max int) *Mem {
	t.Helper()
	m, e := New(api.Limits{Min: min, Max: max})
	if m == nil || e != api.OK {
		t.Fatalf("New(%d, %d): %v %d", min, max, m, e)
	}
	if trap := m.Write(0, pattern(min*api.Page, 0)); trap != api.NoTrap {
		t.Fatalf("Write: %d", trap)
	}
	return m
}

// pattern is n bytes, none of which is 0, or alike to one that is near.
func pattern(n, from int) string {
	b := make([]byte, n)
	for i := range b {
		b[i] = byte((i+from)*37%251 + 1 + (i+from)/251%4)
	}
	return string(b)
}

// zeros is n bytes.
func zeros(n int) string { return strings.Repeat("\x00", n) }

// is asks whether a memory's bytes are these, all of them, and it has that Max.
func is(t *testing.T, m *Mem, want string, most int) {
	t.Helper()
	if m.Pages() != len(want)/api.Page || m.Most() != most {
		t.Fatalf("%d pages at most %d, want %d, %d", m.Pages(), m.Most(), len(want)/api.Page, most)
	}
	if got, trap := m.Read(0, len(want)); got != want || trap != api.NoTrap {
		t.Fatalf("other bytes (trap %d), first at %d", trap, first(got, want))
	}
	if got, trap := m.Read(len(want), 1); got != "" || trap != api.TrapMemory {
		t.Fatalf("%d bytes, one more: %q %d", len(want), got, trap)
	}
}

// first is where two texts part.
func first(a, b string) int {
	for i := range min(len(a), len(b)) {
		if a[i] != b[i] {
			return i
		}
	}
	return min(len(a), len(b))
}

// with is a text into which another one is put.
func with(s string, at int, part string) string { return s[:at] + part + s[at+len(part):] }

// fits tells whether n bytes from a place on are within so many.
func fits(at, n, size int) bool {
	return at >= 0 && n >= 0 && at <= size && n <= size && at+n <= size
}

// 4.1: Check and New, by numbers.
func TestCheck(t *testing.T) {
	for _, x := range []struct {
		min, max int
		e        api.Errno
	}{
		{0, -1, api.OK}, {1, -1, api.OK}, {15, -1, api.OK}, {16, -1, api.OK}, {17, -1, api.ErrLimit}, {-1, -1, api.ErrLimit}, {-2, -1, api.ErrLimit},
		{0, 0, api.OK}, {0, 1, api.OK}, {0, 16, api.OK}, {0, 17, api.ErrLimit}, {0, -2, api.ErrLimit}, {0, -3, api.ErrLimit},
		{1, 0, api.ErrLimit}, {1, 1, api.OK}, {1, 2, api.OK}, {2, 1, api.ErrLimit}, {16, 16, api.OK}, {16, 15, api.ErrLimit}, {16, 17, api.ErrLimit}, {17, 17, api.ErrLimit}, {17, 16, api.ErrLimit}, {17, 18, api.ErrLimit},
		{-1, 0, api.ErrLimit}, {-1, 16, api.ErrLimit}, {-2, -2, api.ErrLimit}, {-1, -2, api.ErrLimit},
		{math.MaxInt, -1, api.ErrLimit}, {math.MinInt, -1, api.ErrLimit}, {0, math.MaxInt, api.ErrLimit}, {0, math.MinInt, api.ErrLimit}, {1 << 32, -1, api.ErrLimit}, {1, 1<<32 + 1, api.ErrLimit}, {1 << 48, -1, api.ErrLimit},
		{math.MinInt, math.MinInt, api.ErrLimit}, {math.MaxInt, math.MaxInt, api.ErrLimit}, {math.MinInt, math.MaxInt, api.ErrLimit}, {1<<32 - 1, 1<<32 - 1, api.ErrLimit},
	} {
		asCheck(t, x.min, x.max, x.e)
	}
}

// asCheck asks what Check and New say.
func asCheck(t *testing.T, min, max int, want api.Errno) {
	t.Helper()
	l := api.Limits{Min: min, Max: max}
	if e := Check(l); e != want {
		t.Errorf("Check(%d, %d): %d, want %d", min, max, e, want)
	}
	m, e := New(l)
	if e != want || (m == nil) != (want != api.OK) {
		t.Errorf("New(%d, %d): %v %d, want %d", min, max, m != nil, e, want)
	}
	if m != nil && (m.Pages() != min || m.Most() != max) {
		t.Errorf("New(%d, %d): %d %d", min, max, m.Pages(), m.Most())
	}
}

// 4.1: of all two numbers beside the edges.
func TestCheckAll(t *testing.T) {
	l := great()
	for n := -5; n <= 33; n++ {
		l = append(l, n)
	}
	for _, min := range l {
		for _, max := range l {
			want := api.ErrLimit
			if min >= 0 && min <= 16 && (max == -1 || max >= min && max <= 16) {
				want = api.OK
			}
			asCheck(t, min, max, want)
		}
	}
}

// 4.1: a new memory is all zero, and as long as its pages are.
func TestNew(t *testing.T) {
	for _, l := range []api.Limits{{Min: 0, Max: -1}, {Min: 0, Max: 0}, {Min: 0, Max: 3}, {Min: 1, Max: -1}, {Min: 1, Max: 1}, {Min: 2, Max: 16}, {Min: 16, Max: -1}, {Min: 16, Max: 16}} {
		m, e := New(l)
		if e != api.OK {
			t.Fatalf("New(%v): %d", l, e)
		}
		is(t, m, zeros(l.Min*65536), l.Max)
	}
	m, n := made(t, 1, 2), made(t, 1, 2)
	m.Fill(0, 1, api.Page)
	is(t, n, pattern(api.Page, 0), 2)
}

// 4.1: Grow, step by step.
func TestGrow(t *testing.T) {
	for _, x := range []struct {
		min, max int
		steps    [][2]int
	}{
		{0, -1, [][2]int{{0, 0}, {1, 0}, {0, 1}, {2, 1}, {-1, -1}, {13, 3}, {1, -1}, {0, 16}, {1, -1}}},
		{0, -1, [][2]int{{17, -1}, {16, 0}, {1, -1}, {-16, -1}, {0, 16}}},
		{0, 0, [][2]int{{0, 0}, {1, -1}, {16, -1}, {-1, -1}, {0, 0}}},
		{0, 1, [][2]int{{2, -1}, {1, 0}, {1, -1}, {0, 1}}},
		{1, -1, [][2]int{{-1, -1}, {-2, -1}, {16, -1}, {15, 1}, {1, -1}, {0, 16}}},
		{1, 1, [][2]int{{1, -1}, {0, 1}, {-1, -1}}},
		{1, 3, [][2]int{{3, -1}, {1, 1}, {2, -1}, {1, 2}, {1, -1}, {0, 3}}},
		{2, 16, [][2]int{{15, -1}, {14, 2}, {1, -1}}},
		{16, -1, [][2]int{{1, -1}, {0, 16}, {-1, -1}}},
		{16, 16, [][2]int{{1, -1}, {0, 16}, {-1, -1}}},
	} {
		m := made(t, x.min, x.max)
		bytes := pattern(x.min*api.Page, 0)
		for _, s := range x.steps {
			if n := m.Grow(s[0]); n != s[1] {
				t.Errorf("{%d %d}: Grow(%d): %d, want %d", x.min, x.max, s[0], n, s[1])
			}
			if s[1] >= 0 {
				bytes += zeros(s[0] * api.Page)
			}
			is(t, m, bytes, x.max)
		}
	}
}

// 4.1: Grow by numbers that are great, or would be few, were they bytes of 64 bits: nothing is done.
func TestGrowGreat(t *testing.T) {
	for _, l := range [][2]int{{0, -1}, {1, -1}, {1, 16}, {3, 5}, {16, -1}} {
		m := made(t, l[0], l[1])
		for _, n := range great() {
			if got := m.Grow(n); got != -1 {
				t.Errorf("%v: Grow(%d): %d", l, n, got)
			}
		}
		is(t, m, pattern(l[0]*api.Page, 0), l[1])
	}
}

// 4.1: what was there stays, what is new is zero, page by page, whatever was written.
func TestGrowStays(t *testing.T) {
	m := made(t, 0, -1)
	bytes := ""
	for i := range 16 {
		if n := m.Grow(1); n != i {
			t.Fatalf("Grow(1): %d, want %d", n, i)
		}
		bytes += zeros(api.Page)
		is(t, m, bytes, -1)
		last := len(bytes) - 1
		bytes = with(with(bytes, 0, string(rune('a'+i))), last, "z")
		if m.Write(0, bytes[:1]) != api.NoTrap || m.Write(last, "z") != api.NoTrap {
			t.Fatalf("page %d is not written", i)
		}
	}
	is(t, m, bytes, -1)
}

// 4.1: a clone is alike, and each goes its own way.
func TestClone(t *testing.T) {
	for _, l := range [][2]int{{0, -1}, {0, 2}, {1, -1}, {1, 1}, {2, 5}, {16, 16}} {
		m := made(t, l[0], l[1])
		bytes := pattern(l[0]*api.Page, 0)
		c := m.Clone()
		is(t, c, bytes, l[1])
		for _, way := range [][2]*Mem{{m, c}, {c, m}} {
			one, other := way[0].Clone(), way[1].Clone()
			one.Fill(0, 0, one.Pages()*api.Page)
			one.Store(0x36, 0, -1)
			one.Write(5, "text")
			Copy(one, 9, other, 0, 100)
			grown := one.Grow(1)
			is(t, other, bytes, l[1])
			if other.Grow(1) != grown {
				t.Errorf("%v: grows otherwise", l)
			}
		}
		is(t, m, bytes, l[1])
		is(t, c, bytes, l[1])
	}
}

// 4.1: clones of what has grown, which grow both.
func TestCloneGrown(t *testing.T) {
	m := made(t, 1, 9)
	m.Grow(2)
	m.Grow(1)
	bytes := pattern(api.Page, 0) + zeros(3*api.Page)
	c := m.Clone()
	is(t, c, bytes, 9)
	for _, x := range []*Mem{m, c} {
		if n := x.Grow(1); n != 4 {
			t.Errorf("Grow(1): %d", n)
		}
		is(t, x, bytes+zeros(api.Page), 9)
		x.Fill(4*api.Page, 7, api.Page)
	}
	m.Fill(0, 3, 5*api.Page)
	is(t, c, bytes+strings.Repeat("\x07", api.Page), 9)
	if n := c.Clone().Grow(5); n != -1 {
		t.Errorf("a clone grows beyond its Max: %d", n)
	}
	if n := c.Clone().Grow(4); n != 5 {
		t.Errorf("a clone does not grow to its Max: %d", n)
	}
}

// 4.2: Width.
func TestWidth(t *testing.T) {
	asWidth := func(code, width, typ int, stores bool) {
		t.Helper()
		if n, of, s := Width(code); n != width || of != typ || s != stores {
			t.Errorf("Width(%x): %d %x %v, want %d %x %v", code, n, of, s, width, typ, stores)
		}
	}
	for _, o := range ops() {
		asWidth(o.code, o.width, o.typ, o.stores)
	}
	for _, code := range none() {
		asWidth(code, 0, 0, false)
	}
	for _, code := range []int{0, 0x27, 0x2A, 0x2B, 0x38, 0x39, 0x3F, 0x40, -1, -0x28, 0x128, 1<<32 + 0x28, math.MaxInt, math.MinInt} {
		asWidth(code, 0, 0, false)
	}
}

// 4.3: Load, by numbers.
func TestLoad(t *testing.T) {
	m := made(t, 1, -1)
	m.Write(0, "\x01\x02\x03\x04\x05\x06\x07\x08")
	m.Write(16, "\xfe\xff\xff\xff\xff\xff\xff\xff")
	m.Write(32, "\x80\x7f\x80\x7f\x80\x7f\x80\x7f")
	m.Write(48, "\x7f\x80\x7f\x80\x7f\x80\x7f\x80")
	m.Write(64, zeros(8))
	m.Write(80, "\x00\x00\x00\x80\x00\x00\x00\x80")
	for _, x := range [][3]int{
		{0x28, 0, 0x04030201}, {0x28, 1, 0x05040302}, {0x28, 16, 1<<32 - 2}, {0x28, 17, 1<<32 - 1}, {0x28, 32, 0x7F807F80}, {0x28, 48, 0x807F807F}, {0x28, 64, 0}, {0x28, 80, 1 << 31},
		{0x29, 0, 0x0807060504030201}, {0x29, 16, -2}, {0x29, 32, 0x7F807F807F807F80}, {0x29, 48, 0x807F807F807F807F - 1<<64}, {0x29, 64, 0}, {0x29, 80, math.MinInt + 1<<31},
		{0x2C, 0, 1}, {0x2C, 16, 1<<32 - 2}, {0x2C, 32, 1<<32 - 128}, {0x2C, 48, 127}, {0x2C, 64, 0},
		{0x2D, 0, 1}, {0x2D, 16, 0xFE}, {0x2D, 32, 0x80}, {0x2D, 48, 0x7F}, {0x2D, 17, 0xFF},
		{0x2E, 0, 0x0201}, {0x2E, 16, 1<<32 - 2}, {0x2E, 32, 0x7F80}, {0x2E, 48, 1<<32 - 0x7F81}, {0x2E, 17, 1<<32 - 1}, {0x2E, 82, 1<<32 - 0x8000},
		{0x2F, 0, 0x0201}, {0x2F, 16, 0xFFFE}, {0x2F, 32, 0x7F80}, {0x2F, 48, 0x807F}, {0x2F, 82, 0x8000},
		{0x30, 0, 1}, {0x30, 16, -2}, {0x30, 32, -128}, {0x30, 48, 127},
		{0x31, 0, 1}, {0x31, 16, 0xFE}, {0x31, 32, 0x80}, {0x31, 48, 0x7F},
		{0x32, 0, 0x0201}, {0x32, 16, -2}, {0x32, 32, 0x7F80}, {0x32, 48, -0x7F81}, {0x32, 82, -0x8000},
		{0x33, 0, 0x0201}, {0x33, 16, 0xFFFE}, {0x33, 32, 0x7F80}, {0x33, 48, 0x807F}, {0x33, 82, 0x8000},
		{0x34, 0, 0x04030201}, {0x34, 16, -2}, {0x34, 32, 0x7F807F80}, {0x34, 48, 0x807F807F - 1<<32}, {0x34, 80, -1 << 31}, {0x34, 81, 0x800000},
		{0x35, 0, 0x04030201}, {0x35, 16, 1<<32 - 2}, {0x35, 32, 0x7F807F80}, {0x35, 48, 0x807F807F}, {0x35, 80, 1 << 31}, {0x35, 17, 1<<32 - 1},
	} {
		if v, trap := m.Load(x[0], x[1]); v != x[2] || trap != api.NoTrap {
			t.Errorf("Load(%x, %d): %x %d, want %x", x[0], x[1], v, trap, x[2])
		}
	}
}

// wantLoad is what the chapter says of an instruction that loads these bytes.
func wantLoad(o op, part string) int {
	var b [8]byte
	copy(b[:], part)
	u := binary.LittleEndian.Uint64(b[:])
	v := int(u)
	if o.signed {
		v = map[int]int{1: int(int8(u)), 2: int(int16(u)), 4: int(int32(u))}[o.width]
	}
	if o.typ == api.I32 && v < 0 {
		v += 1 << 32
	}
	return v
}

// places are those beside a memory's edges, within and beyond, and great ones.
func places(size int) []int {
	l := great()
	for i := -9; i <= 9; i++ {
		l = append(l, i, size+i)
	}
	return append(l, size/2, size/2+1, 4095, 4096, 1234, api.Page-1, api.Page, api.Page+1)
}

// 4.3: Load, of each instruction at each place: nothing changes.
func TestLoadAll(t *testing.T) {
	for _, pages := range []int{0, 1, 2, 16} {
		m, size := made(t, pages, -1), pages*api.Page
		bytes := pattern(size, 0)
		for _, o := range ops() {
			for _, at := range places(size) {
				want, trap := 0, api.TrapMemory
				if !o.stores && fits(at, o.width, size) {
					want, trap = wantLoad(o, bytes[at:at+o.width]), api.NoTrap
				}
				if v, is := m.Load(o.code, at); v != want || is != trap {
					t.Errorf("%d pages: Load(%x, %d): %x %d, want %x %d", pages, o.code, at, v, is, want, trap)
				}
			}
		}
		is(t, m, bytes, -1)
	}
}

// 4.3: Load, of each byte, with those above it 0 and 255.
func TestLoadBytes(t *testing.T) {
	m := made(t, 1, 1)
	for _, o := range loads() {
		for b := range 256 {
			for i := range o.width {
				for _, around := range []string{"\x00", "\xff", "\x7f", "\x80", "\x5a"} {
					part := with(strings.Repeat(around, o.width), i, string([]byte{byte(b)}))
					m.Write(100, part)
					if v, trap := m.Load(o.code, 100); v != wantLoad(o, part) || trap != api.NoTrap {
						t.Fatalf("Load(%x) of %x: %x %d, want %x", o.code, part, v, trap, wantLoad(o, part))
					}
				}
			}
		}
	}
}

// 4.3: Store, by numbers.
func TestStore(t *testing.T) {
	for _, x := range []struct {
		code, v int
		want    string
	}{
		{0x36, 0x04030201, "\x01\x02\x03\x04"}, {0x36, -2, "\xfe\xff\xff\xff"}, {0x36, 1<<32 - 2, "\xfe\xff\xff\xff"}, {0x36, 1 << 32, "\x00\x00\x00\x00"}, {0x36, 0x0102030405060708, "\x08\x07\x06\x05"}, {0x36, math.MinInt, "\x00\x00\x00\x00"},
		{0x37, 0x0102030405060708, "\x08\x07\x06\x05\x04\x03\x02\x01"}, {0x37, -2, "\xfe\xff\xff\xff\xff\xff\xff\xff"}, {0x37, math.MinInt, "\x00\x00\x00\x00\x00\x00\x00\x80"}, {0x37, 1 << 32, "\x00\x00\x00\x00\x01\x00\x00\x00"}, {0x37, 0, "\x00\x00\x00\x00\x00\x00\x00\x00"},
		{0x3A, 0x7F, "\x7f"}, {0x3A, 0x100, "\x00"}, {0x3A, -1, "\xff"}, {0x3A, -128, "\x80"}, {0x3A, 0x1234, "\x34"}, {0x3A, 1<<32 - 1, "\xff"},
		{0x3B, 0x1234, "\x34\x12"}, {0x3B, -2, "\xfe\xff"}, {0x3B, 0x10000, "\x00\x00"}, {0x3B, 0x123456, "\x56\x34"},
		{0x3C, 0x1FF, "\xff"}, {0x3C, math.MaxInt, "\xff"}, {0x3C, math.MinInt, "\x00"},
		{0x3D, 0x123456, "\x56\x34"}, {0x3D, -0x8000, "\x00\x80"},
		{0x3E, 0x0102030405060708, "\x08\x07\x06\x05"}, {0x3E, -1, "\xff\xff\xff\xff"}, {0x3E, -1 << 31, "\x00\x00\x00\x80"}, {0x3E, 1 << 32, "\x00\x00\x00\x00"},
	} {
		m := made(t, 1, 1)
		if trap := m.Store(x.code, 10, x.v); trap != api.NoTrap {
			t.Errorf("Store(%x, 10, %x): %d", x.code, x.v, trap)
		}
		is(t, m, with(pattern(api.Page, 0), 10, x.want), 1)
	}
}

// numbers are such as are stored, among them those that have more bits than there is room for.
func numbers() []int {
	return []int{0, 1, -1, 0x7F, 0x80, 0xFF, 0x100, 0x7FFF, 0x8000, 0xFFFF, 0x10000, 1<<31 - 1, 1 << 31, 1<<32 - 1, 1 << 32, -1 << 31, -1<<31 - 1, math.MaxInt, math.MinInt, 0x0123456789ABCDEF, -0x0123456789ABCDEF, 0x7172737475767778}
}

// 4.3: Store, of each instruction at each place: all other bytes stay, and with a trap all.
func TestStoreAll(t *testing.T) {
	for _, pages := range []int{0, 1} {
		size := pages * api.Page
		m, bytes := made(t, pages, -1), pattern(size, 0)
		for _, o := range ops() {
			for i, at := range places(size) {
				v := numbers()[i%len(numbers())] ^ i*0x101010101
				if trap := m.Store(o.code, at, v); (trap == api.NoTrap) != (o.stores && fits(at, o.width, size)) || trap != api.NoTrap && trap != api.TrapMemory {
					t.Errorf("%d pages: Store(%x, %d, %x): %d", pages, o.code, at, v, trap)
				}
				if o.stores && fits(at, o.width, size) {
					bytes = with(bytes, at, string(binary.LittleEndian.AppendUint64(nil, uint64(v))[:o.width]))
				}
				is(t, m, bytes, -1)
			}
		}
	}
}

// 4.3: what neither loads nor stores is a trap, as is what stores, where it is loaded, and the other way round.
func TestNeither(t *testing.T) {
	m := made(t, 1, 1)
	notLoad, notStore := none(), none()
	for _, o := range ops() {
		if o.stores {
			notLoad = append(notLoad, o.code)
		} else {
			notStore = append(notStore, o.code)
		}
	}
	for _, at := range []int{0, 8, api.Page - 8, api.Page, -1} {
		for _, code := range notLoad {
			if v, trap := m.Load(code, at); v != 0 || trap != api.TrapMemory {
				t.Errorf("Load(%x, %d): %d %d", code, at, v, trap)
			}
		}
		for _, code := range notStore {
			if trap := m.Store(code, at, -1); trap != api.TrapMemory {
				t.Errorf("Store(%x, %d): %d", code, at, trap)
			}
		}
	}
	is(t, m, pattern(api.Page, 0), 1)
}

// 4.3: Copy within one memory, whose places lie over one another in both directions.
func TestCopy(t *testing.T) {
	for _, x := range []struct {
		at, place, n int
		want         string
	}{
		{0, 0, 8, "abcdefgh"}, {1, 0, 5, "aabcdegh"}, {0, 1, 5, "bcdeffgh"}, {2, 0, 6, "ababcdef"}, {0, 2, 6, "cdefghgh"}, {4, 0, 4, "abcdabcd"}, {0, 4, 4, "efghefgh"}, {7, 0, 1, "abcdefga"},
		{3, 5, 0, "abcdefgh"}, {3, 3, 3, "abcdefgh"}, {1, 0, 7, "aabcdefg"}, {0, 1, 7, "bcdefghh"},
	} {
		m := made(t, 1, 1)
		m.Write(500, "abcdefgh")
		if trap := Copy(m, 500+x.at, m, 500+x.place, x.n); trap != api.NoTrap {
			t.Errorf("Copy(%d, %d, %d): %d", x.at, x.place, x.n, trap)
		}
		is(t, m, with(pattern(api.Page, 0), 500, x.want), 1)
	}
}

// 4.3: Copy, of each number of bytes, in one memory.
func TestCopyOne(t *testing.T) {
	size := api.Page
	counts := append(great(), 0, 1, 2, 8, 9, 100, 4096, size-9, size-8, size-1, size, size+1)
	ends := []int{-1, 0, 1, 7, 100, size / 2, size - 100, size - 9, size - 8, size - 1, size, size + 1, math.MaxInt, math.MinInt, 1 << 32}
	for _, at := range ends {
		for _, place := range ends {
			for _, n := range counts {
				asCopy(t, at, place, n)
			}
		}
	}
}

// asCopy holds Copy in one memory of a page against what goes by way of a third place.
func asCopy(t *testing.T, at, place, n int) {
	t.Helper()
	m, want := patterned(), pattern1
	trap := Copy(m, at, m, place, n)
	if fits(at, n, api.Page) && fits(place, n, api.Page) {
		if trap != api.NoTrap {
			t.Fatalf("Copy(%d, %d, %d): %d", at, place, n, trap)
		}
		want = with(pattern1, at, pattern1[place:place+n])
	} else if trap != api.TrapMemory {
		t.Fatalf("Copy(%d, %d, %d): %d", at, place, n, trap)
	}
	if string(m.bytes) != want {
		t.Fatalf("Copy(%d, %d, %d): other bytes, first at %d", at, place, n, first(string(m.bytes), want))
	}
}

// pattern1 is a page.
var pattern1 = pattern(api.Page, 0)

// patterned is a memory of that page.
func patterned() *Mem {
	m, _ := New(api.Limits{Min: 1, Max: -1})
	m.Write(0, pattern1)
	return m
}

// 4.3: Copy between two memories of different lengths: only the one changes.
func TestCopyTwo(t *testing.T) {
	one, two := pattern(api.Page, 0), pattern(2*api.Page, 99)
	for _, x := range []struct {
		at, place, n int
		trap         api.Trap
	}{
		{0, 0, 65536, 0}, {0, 65536, 65536, 0}, {0, 65537, 65536, api.TrapMemory}, {0, 65537, 65535, 0}, {1, 0, 65536, api.TrapMemory}, {1, 5, 65535, 0}, {0, 0, 65537, api.TrapMemory},
		{65535, 131071, 1, 0}, {65536, 131071, 1, api.TrapMemory}, {65535, 131072, 1, api.TrapMemory}, {65535, 131071, 2, api.TrapMemory},
		{65536, 131072, 0, 0}, {65537, 131072, 0, api.TrapMemory}, {65536, 131073, 0, api.TrapMemory}, {0, 0, 0, 0}, {-1, 0, 0, api.TrapMemory}, {0, -1, 0, api.TrapMemory}, {0, 0, -1, api.TrapMemory}, {5, 5, -1, api.TrapMemory},
		{65536, 131072, -1, api.TrapMemory}, {math.MaxInt, 0, 1, api.TrapMemory}, {0, math.MaxInt, 1, api.TrapMemory}, {1, 1, math.MaxInt, api.TrapMemory}, {math.MaxInt, math.MaxInt, math.MaxInt, api.TrapMemory},
		{math.MinInt, 0, 1, api.TrapMemory}, {0, math.MinInt, 1, api.TrapMemory}, {0, 0, math.MinInt, api.TrapMemory}, {1, 1, math.MinInt, api.TrapMemory}, {1 << 32, 0, 1, api.TrapMemory}, {0, 1 << 32, 1, api.TrapMemory}, {0, 0, 1 << 32, api.TrapMemory},
	} {
		m, n := made(t, 1, 4), made(t, 2, 3)
		n.Write(0, two)
		if trap := Copy(m, x.at, n, x.place, x.n); trap != x.trap {
			t.Errorf("Copy(%d, %d, %d): %d, want %d", x.at, x.place, x.n, trap, x.trap)
		}
		want := one
		if x.trap == api.NoTrap {
			want = with(one, x.at, two[x.place:x.place+x.n])
		}
		is(t, m, want, 4)
		is(t, n, two, 3)
	}
}

// 4.3: Copy between one that has no bytes, or is nil, and another one.
func TestCopyNone(t *testing.T) {
	empty := made(t, 0, 1)
	for _, x := range [][2]*Mem{{empty, empty}, {nil, nil}, {empty, nil}, {nil, empty}} {
		for _, n := range [][4]int{{0, 0, 0, 0}, {0, 0, 1, 4}, {1, 0, 0, 4}, {0, 1, 0, 4}, {0, 0, -1, 4}, {-1, 0, 0, 4}, {0, -1, 0, 4}, {0, 0, math.MaxInt, 4}} {
			if trap := Copy(x[0], n[0], x[1], n[1], n[2]); trap != api.Trap(n[3]) {
				t.Errorf("Copy %v: %d", n, trap)
			}
		}
		m := patterned()
		for _, n := range [][4]int{{0, 0, 0, 0}, {0, 65536, 0, 0}, {0, 65537, 0, 4}, {1, 0, 0, 4}, {0, 0, 1, 4}, {0, 0, -1, 4}} {
			if trap := Copy(x[0], n[0], m, n[1], n[2]); trap != api.Trap(n[3]) {
				t.Errorf("Copy of a page %v: %d", n, trap)
			}
			if trap := Copy(m, n[1], x[0], n[0], n[2]); trap != api.Trap(n[3]) {
				t.Errorf("Copy to a page %v: %d", n, trap)
			}
		}
		is(t, m, pattern1, -1)
	}
}

// parts are places and numbers of bytes in a memory of so many bytes, at the edges and beyond.
func parts(size int) [][2]int {
	var l [][2]int
	for _, at := range places(size) {
		for _, n := range append(great(), 0, 1, 2, 3, 9, size-1, size, size+1, size-at, size-at+1, size-at-1, -at, math.MaxInt-at, math.MinInt-at) {
			l = append(l, [2]int{at, n})
		}
	}
	return l
}

// 4.3: Fill, by each part.
func TestFill(t *testing.T) {
	for _, pages := range []int{0, 1} {
		size := pages * api.Page
		m, bytes := made(t, pages, 1), pattern(size, 0)
		for i, p := range parts(size) {
			at, n, v := p[0], p[1], numbers()[i%len(numbers())]
			want := bytes
			trap := m.Fill(at, v, n)
			if (trap == api.NoTrap) != fits(at, n, size) || trap != api.NoTrap && trap != api.TrapMemory {
				t.Fatalf("%d pages: Fill(%d, %d, %d): %d", pages, at, v, n, trap)
			}
			if trap == api.NoTrap {
				want = with(want, at, strings.Repeat(string([]byte{byte(v)}), n))
			}
			if string(m.bytes) != want {
				t.Fatalf("%d pages: Fill(%d, %d, %d): other bytes, first at %d", pages, at, v, n, first(string(m.bytes), want))
			}
			m.Write(0, bytes)
		}
	}
	m := made(t, 1, 1)
	for _, x := range []struct {
		v    int
		want string
	}{{0, "\x00"}, {0x1FF, "\xff"}, {0x1234, "\x34"}, {-1, "\xff"}, {-256, "\x00"}, {1 << 40, "\x00"}, {math.MinInt + 7, "\x07"}} {
		m.Fill(3, x.v, 4)
		is(t, m, with(pattern1, 3, strings.Repeat(x.want, 4)), 1)
	}
}

// 4.3: Read, by each part.
func TestRead(t *testing.T) {
	for _, pages := range []int{0, 1, 3} {
		size := pages * api.Page
		m, bytes := made(t, pages, -1), pattern(size, 0)
		for _, p := range parts(size) {
			want, trap := "", api.TrapMemory
			if fits(p[0], p[1], size) {
				want, trap = bytes[p[0]:p[0]+p[1]], api.NoTrap
			}
			if s, is := m.Read(p[0], p[1]); s != want || is != trap {
				t.Fatalf("%d pages: Read(%d, %d): %d bytes %d", pages, p[0], p[1], len(s), is)
			}
		}
		is(t, m, bytes, -1)
	}
}

// 4.3: Write, at each place.
func TestWrite(t *testing.T) {
	for _, pages := range []int{0, 1} {
		size := pages * api.Page
		m, bytes, long := made(t, pages, 1), pattern(size, 0), pattern(size+9, 7777)
		for _, at := range places(size) {
			for _, n := range []int{0, 1, 2, 3, 8, 9, 100, size - 1, size, size + 1, size + 9} {
				s, want := long[:min(max(n, 0), len(long))], bytes
				trap := m.Write(at, s)
				if (trap == api.NoTrap) != fits(at, len(s), size) || trap != api.NoTrap && trap != api.TrapMemory {
					t.Fatalf("%d pages: Write(%d, %d bytes): %d", pages, at, n, trap)
				}
				if trap == api.NoTrap {
					want = with(want, at, s)
				}
				if string(m.bytes) != want {
					t.Fatalf("%d pages: Write(%d, %d bytes): other bytes, first at %d", pages, at, n, first(string(m.bytes), want))
				}
				m.Write(0, bytes)
			}
		}
	}
}

// 4.1, 4.3: a part reaches into what has grown, and no farther.
func TestGrownParts(t *testing.T) {
	m := made(t, 1, 2)
	if _, trap := m.Load(0x29, 65529); trap != api.TrapMemory {
		t.Errorf("Load: %d", trap)
	}
	m.Grow(1)
	if v, trap := m.Load(0x29, 65535); v != int(pattern1[65535]) || trap != api.NoTrap {
		t.Errorf("Load over two pages: %x %d", v, trap)
	}
	if m.Store(0x37, 131064, -1) != api.NoTrap || m.Store(0x37, 131065, -1) != api.TrapMemory || m.Store(0x3A, 131072, -1) != api.TrapMemory {
		t.Errorf("Store at the end")
	}
	want := pattern1 + zeros(api.Page-8) + "\xff\xff\xff\xff\xff\xff\xff\xff"
	is(t, m, want, 2)
	if Copy(m, 65536, m, 65532, 65536) != api.NoTrap || Copy(m, 65537, m, 65532, 65536) != api.TrapMemory {
		t.Errorf("Copy")
	}
	is(t, m, want[:65536]+want[65532:131068], 2)
}

// 4.4: what is stored is loaded, cut to as many bytes, at any place that fits; other bytes stay.
func TestStored(t *testing.T) {
	m := made(t, 1, 1)
	for _, st := range stores() {
		for _, ld := range loads() {
			if ld.width != st.width {
				continue
			}
			for _, v := range numbers() {
				for _, at := range []int{0, 1, 777, api.Page - st.width} {
					before, _ := m.Read(0, api.Page)
					m.Store(st.code, at, v)
					part := string(binary.LittleEndian.AppendUint64(nil, uint64(v))[:st.width])
					if n, trap := m.Load(ld.code, at); n != wantLoad(ld, part) || trap != api.NoTrap {
						t.Errorf("Store(%x, %d, %x), Load(%x): %x %d", st.code, at, v, ld.code, n, trap)
					}
					if after, _ := m.Read(0, api.Page); after != with(before, at, part) {
						t.Fatalf("Store(%x, %d, %x): other bytes", st.code, at, v)
					}
				}
			}
		}
	}
}

// 4.4: whole numbers of a type come back as they were.
func TestBack(t *testing.T) {
	m := made(t, 1, 1)
	for _, v := range numbers() {
		m.Store(0x37, 40, v)
		if n, _ := m.Load(0x29, 40); n != v {
			t.Errorf("%x of 64 bits: %x", v, n)
		}
		m.Store(0x36, 40, v)
		if n, _ := m.Load(0x28, 40); n != v&(1<<32-1) {
			t.Errorf("%x of 32 bits: %x", v, n)
		}
	}
	m.Write(9, "text")
	if s, _ := m.Read(9, 4); s != "text" {
		t.Errorf("%q", s)
	}
}

// The chapter's examples.
func TestExamples(t *testing.T) {
	m, e := New(api.Limits{Min: 1, Max: -1})
	if e != api.OK || m.Store(0x36, 4, -2) != api.NoTrap {
		t.Fatalf("New: %d", e)
	}
	if s, trap := m.Read(4, 4); s != "\xfe\xff\xff\xff" || trap != api.NoTrap {
		t.Errorf("Read: %x %d", s, trap)
	}
	if v, trap := m.Load(0x2C, 4); v != 1<<32-2 || trap != api.NoTrap {
		t.Errorf("Load(2C): %d %d", v, trap)
	}
	if v, trap := m.Load(0x30, 4); v != -2 || trap != api.NoTrap {
		t.Errorf("Load(30): %d %d", v, trap)
	}
	if n := m.Grow(1); n != 1 {
		t.Errorf("Grow: %d", n)
	}
	if v, trap := m.Load(0x29, 131065); v != 0 || trap != api.TrapMemory {
		t.Errorf("Load(29): %d %d", v, trap)
	}
}

// 4.1, 4.3: a nil memory has no bytes, and never more; the zero one likewise.
func TestNil(t *testing.T) {
	var none *Mem
	if none.Grow(0) != -1 || none.Grow(1) != -1 || none.Grow(-1) != -1 || none.Grow(math.MaxInt) != -1 || none.Clone() != nil {
		t.Errorf("a nil memory grows, or has a clone")
	}
	if c := new(Mem).Clone(); c == nil || c.Pages() != 0 || c.Most() != 0 || c.Grow(0) != 0 || c.Grow(1) != -1 {
		t.Errorf("the zero memory grows, or has no clone")
	}
	for _, m := range []*Mem{nil, {}, nil} {
		if m.Pages() != 0 || m.Most() != 0 {
			t.Errorf("%d pages, at most %d", m.Pages(), m.Most())
		}
		for _, o := range ops() {
			for _, at := range places(0) {
				if v, trap := m.Load(o.code, at); v != 0 || trap != api.TrapMemory {
					t.Errorf("Load(%x, %d): %d %d", o.code, at, v, trap)
				}
				if trap := m.Store(o.code, at, 1); trap != api.TrapMemory {
					t.Errorf("Store(%x, %d): %d", o.code, at, trap)
				}
			}
		}
		for _, p := range parts(0) {
			want := api.TrapMemory
			if p == [2]int{} {
				want = api.NoTrap
			}
			if s, trap := m.Read(p[0], p[1]); s != "" || trap != want {
				t.Errorf("Read%v: %q %d", p, s, trap)
			}
			if trap := m.Fill(p[0], 1, p[1]); trap != want {
				t.Errorf("Fill%v: %d", p, trap)
			}
		}
		if m.Write(0, "") != api.NoTrap || m.Write(1, "") != api.TrapMemory || m.Write(-1, "") != api.TrapMemory || m.Write(0, "a") != api.TrapMemory {
			t.Errorf("Write")
		}
	}
}

// R4: what was read stays as it was, whatever is written then.
func TestOwn(t *testing.T) {
	m := made(t, 1, 2)
	s, _ := m.Read(0, api.Page)
	m.Fill(0, 0, api.Page)
	if s != pattern1 {
		t.Errorf("what was read is changed")
	}
	text := strings.Repeat("ab", 4)
	m.Write(0, text)
	m.Fill(0, 9, 8)
	if text != "abababab" {
		t.Errorf("what was written is changed: %q", text)
	}
}

// P1: every call ends, and none panics; with a trap, and with an error, all else is zero.
func TestNothingElse(t *testing.T) {
	wild := append(great(), 0, 1, 2, 7, 8, 15, 16, 17, 0x28, 0x29, 0x36, 0x37, api.Page-1, api.Page, api.Page+1)
	page, grown := patterned(), made(t, 0, 2)
	grown.Grow(1)
	for _, m := range []*Mem{nil, {}, page, grown, page.Clone()} {
		for _, a := range wild {
			if n := m.Grow(a); n < -1 || n > 16 {
				t.Errorf("Grow(%d): %d", a, n)
			}
			m.Write(a, "text")
			for _, b := range wild {
				if v, trap := m.Load(a, b); trap != api.NoTrap && (v != 0 || trap != api.TrapMemory) {
					t.Errorf("Load(%x, %d): %d %d", a, b, v, trap)
				}
				if s, trap := m.Read(a, b); trap != api.NoTrap && (s != "" || trap != api.TrapMemory) {
					t.Errorf("Read(%d, %d): %d bytes %d", a, b, len(s), trap)
				}
				if made, e := New(api.Limits{Min: a, Max: b}); e != api.OK && (made != nil || e != api.ErrLimit) {
					t.Errorf("New(%d, %d): %d", a, b, e)
				}
				m.Store(a, b, b)
				m.Fill(a, b, 9)
				Copy(m, a, page, b, 9)
				Copy(page, a, m, 9, b)
			}
		}
	}
}
