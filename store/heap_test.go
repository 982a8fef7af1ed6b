package store

import (
	"math"
	"slices"
	"testing"

	"scarf/api"
	"scarf/mem"
)

// encodings are all that there are, and some that there are not.
var (
	encodings   = []int{api.EncUTF8, api.EncUTF16, api.EncLatin1}
	noEncodings = []int{-1, 3, 4, 255, 256, 1 << 32, math.MinInt64, math.MaxInt64}
)

func TestScripted(t *testing.T) {
	for _, enc := range noEncodings {
		for _, m := range []*mem.Mem{nil, page()} {
			if h, e := Scripted(m, enc, 1, 2); h != nil || e != api.ErrArg {
				t.Error(enc, h, e)
			}
		}
	}
	for _, enc := range encodings {
		if h, e := Scripted(nil, enc); h != nil || e != api.ErrArg {
			t.Error(enc, h, e)
		}
		h, e := Scripted(page(), enc)
		if h == nil || e != api.OK || h.Fuel() != 0 || len(h.Wants()) != 0 {
			t.Error(enc, h, e)
		}
	}
	none, _ := mem.New(api.Limits{})
	h := heap(none, 0, 0, 0)
	gave(t, h, 1, 0, 0, api.NoTrap)
	gave(t, h, 1, 1, 0, api.TrapBounds)
}

// gave looks what is told of room.
func gave(t *testing.T, h *Heap, align, size, want int, trap api.Trap) {
	t.Helper()
	if at, tr := h.Give(align, size); at != want || tr != trap {
		t.Errorf("%d bytes, aligned to %d: %d %d, not %d %d", size, align, at, tr, want, trap)
	}
}

func wanted(t *testing.T, h *Heap, l ...api.Want) {
	t.Helper()
	for range 2 {
		if w := h.Wants(); !slices.Equal(w, l) {
			t.Errorf("%v, not %v", w, l)
		}
	}
}

// Room is at the places that were told, one behind the other.
func TestGive(t *testing.T) {
	h := heap(page(), 0, 8, 3, 8, 65535, 65536, 65537, 0)
	gave(t, h, 4, 5, 8, api.NoTrap)
	wanted(t, h, api.Want{Align: 4, Size: 5, At: 8})
	gave(t, h, 2, 5, 0, api.TrapAlign)
	gave(t, h, 8, 0, 8, api.NoTrap)
	gave(t, h, 1, 1, 65535, api.NoTrap)
	gave(t, h, 1, 0, 65536, api.NoTrap)
	gave(t, h, 1, 0, 0, api.TrapBounds)
	gave(t, h, 1<<40, 65536, 0, api.NoTrap)
	want := []api.Want{{Align: 4, Size: 5, At: 8}, {Align: 2, Size: 5, At: 3}, {Align: 8, At: 8}, {Align: 1, Size: 1, At: 65535}, {Align: 1, At: 65536}, {Align: 1, At: 65537}, {Align: 1 << 40, Size: 65536}}
	wanted(t, h, want...)
	for range 3 {
		gave(t, h, 1, 1, 0, api.TrapHost)
	}
	wanted(t, h, want...)
}

// Of places the lowest 32 bits are told.
func TestPlaces(t *testing.T) {
	for _, n := range []int{0, 1, 7, 65536, -1, -8, 1 << 31, 1<<32 - 1, 1 << 32, 1<<32 + 5, -1 << 32, math.MaxInt64, math.MinInt64, math.MinInt64 + 9} {
		h := heap(page(), 1, n, n)
		at := n & 0xFFFFFFFF
		want, trap := at, api.NoTrap
		if at > 65536 {
			want, trap = 0, api.TrapBounds
		}
		gave(t, h, 1, 0, want, trap)
		if at%8 != 0 {
			want, trap = 0, api.TrapAlign
		}
		gave(t, h, 8, 0, want, trap)
		wanted(t, h, api.Want{Align: 1, At: at}, api.Want{Align: 8, At: at})
	}
}

// What may not be asked for is not noted, and takes no place.
func TestGiveEdges(t *testing.T) {
	h := heap(page(), 2, times(100, 16)...)
	for _, x := range [][2]int{{0, 1}, {-1, 1}, {math.MinInt64, 1}, {1, -1}, {1, math.MinInt64}, {1, 1 << 32}, {1, math.MaxInt64}, {0, -1}, {0, 1 << 32}} {
		gave(t, h, x[0], x[1], 0, api.TrapHost)
	}
	wanted(t, h)
	var want []api.Want
	for _, x := range []struct {
		align, size int
		trap        api.Trap
	}{
		{1, 0, 0}, {2, 0, 0}, {16, 0, 0}, {17, 0, api.TrapAlign}, {32, 0, api.TrapAlign}, {3, 0, api.TrapAlign}, {math.MaxInt64, 0, api.TrapAlign}, {1 << 32, 1, api.TrapAlign},
		{1, 65520, 0}, {1, 65521, api.TrapBounds}, {1, 1<<32 - 1, api.TrapBounds}, {32, 65521, api.TrapAlign}, {8, 65520, 0}, {8, 65528, api.TrapBounds},
	} {
		at := 16
		if x.trap != api.NoTrap {
			at = 0
		}
		gave(t, h, x.align, x.size, at, x.trap)
		want = append(want, api.Want{Align: x.align, Size: x.size, At: 16})
		wanted(t, h, want...)
	}
	// Three is an alignment as well.
	h = heap(page(), 0, 9, 10, 65535)
	gave(t, h, 3, 1, 9, api.NoTrap)
	gave(t, h, 3, 1, 0, api.TrapAlign)
	gave(t, h, 3, 1, 65535, api.NoTrap)
}

// A memory that was handed in is the memory itself.
func TestSameMemory(t *testing.T) {
	m := page()
	h := heap(m, 0, 70000)
	m.Write(8, "\x07")
	h.loads(t, u8, 8, num(7))
	if h.Store(u8, num(9), 8) != api.NoTrap {
		t.Error("not laid")
	}
	if s, _ := m.Read(8, 1); s != "\x09" {
		t.Error(s)
	}
	h.fails(t, u8, 65536, api.TrapBounds)
	if m.Grow(1) != 1 {
		t.Error("not grown")
	}
	h.loads(t, u8, 65536, num(0))
	gave(t, h, 1, 131072-70000, 70000, api.NoTrap)
}

// Without bytes, without room.
func TestEmpty(t *testing.T) {
	for _, h := range []*Heap{Empty(), {}} {
		if h == nil {
			t.Fatal("nil")
		}
		for range 2 {
			if h.Fuel() != 0 || len(h.Wants()) != 0 {
				t.Error(h.Fuel(), h.Wants())
			}
			gave(t, h, 1, 0, 0, api.TrapHost)
			h.fails(t, u8, 0, api.TrapBounds)
			h.fails(t, u32, 2, api.TrapAlign)
			if trap := h.Store(u8, num(1), 0); trap != api.TrapBounds {
				t.Error(trap)
			}
			if trap := h.Store(u8, num(-1), 0); trap != api.TrapHost {
				t.Error(trap)
			}
			text(t, h, 0, 0, api.NoTrap)
			text(t, h, 1, 0, api.TrapBounds)
			text(t, h, 0, 1, api.TrapBounds)
			items(t, h, u64, 0, 0, api.NoTrap)
			items(t, h, u64, 8, 0, api.TrapBounds)
			items(t, h, u64, 0, 1, api.TrapBounds)
			if at, n, trap := h.Text('a'); at != 0 || n != 0 || trap != api.TrapHost {
				t.Error(at, n, trap)
			}
			if at, trap := h.List(u8); at != 0 || trap != api.TrapHost {
				t.Error(at, trap)
			}
		}
		// Its encoding is EncUTF8: an odd place is aligned.
		text(t, h, 1, 1, api.TrapBounds)
	}
	if a, b := Empty(), Empty(); a == b {
		t.Error("the same")
	}
}

// Of a nil heap there is nothing.
func TestNil(t *testing.T) {
	var h *Heap
	if h.Fuel() != 0 || h.Wants() != nil {
		t.Error(h.Fuel(), h.Wants())
	}
	gave(t, h, 1, 0, 0, api.TrapHost)
	gave(t, h, 0, -1, 0, api.TrapHost)
	h.fails(t, u8, 0, api.TrapHost)
	h.fails(t, nothing, -1, api.TrapHost)
	if a, b := h.Store(u8, num(0), 0), h.Store(u8, num(-1), 0); a != api.TrapHost || b != api.TrapHost {
		t.Error(a, b)
	}
	text(t, h, 0, 0, api.TrapHost)
	text(t, h, -1, 0, api.TrapHost)
	items(t, h, u8, 0, 0, api.TrapHost)
	items(t, h, nothing, 0, -1, api.TrapHost)
	for _, l := range [][]int{nil, {'a'}, {-1}} {
		if at, n, trap := h.Text(l...); at != 0 || n != 0 || trap != api.TrapHost {
			t.Error(at, n, trap)
		}
	}
	for _, l := range [][]api.Val{nil, {num(1)}, {num(-1)}} {
		if at, trap := h.List(u8, l...); at != 0 || trap != api.TrapHost {
			t.Error(at, trap)
		}
	}
}

// text looks what is read of a text of which a place and a length are told.
func text(t *testing.T, h *Heap, at, n int, trap api.Trap, want ...int) {
	t.Helper()
	l, tr := h.LoadText(at, n)
	if tr != trap || !slices.Equal(l, want) || trap != api.NoTrap && l != nil {
		t.Errorf("%d at %d: %s %d, not %s %d", n, at, short(l), tr, short(want), trap)
	}
}

// items looks what is read of a list of which a place and a length are told.
func items(t *testing.T, h *Heap, x api.Type, at, n int, trap api.Trap, want ...api.Val) {
	t.Helper()
	l, tr := h.LoadList(x, at, n)
	if tr != trap || !equal(all(l...), all(want...)) || trap != api.NoTrap && l != nil {
		t.Errorf("%s %d at %d: %s %d, not %s %d", short(x), n, at, short(l), tr, short(want), trap)
	}
}
