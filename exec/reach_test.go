package exec

import (
	"math"
	"slices"
	"strings"
	"testing"

	"scarf/api"
	"scarf/mem"
	"scarf/num"
)

// edges are numbers at the edges of a type.
func edges(typ int) []int {
	if typ == 0x7F {
		return []int{0, 1, 2, 7, 31, 32, 33, 127, 128, 255, 256, 32767, 32768, 65535, 1<<31 - 1, 1 << 31, 1<<31 + 1, 1<<32 - 2, 1<<32 - 1, 0x12345678, 0x9ABCDEF0}
	}
	return []int{0, 1, 2, 63, 64, 65, 128, 32768, 1<<31 - 1, 1 << 31, 1<<32 - 1, 1 << 32, math.MaxInt, math.MinInt, math.MinInt + 1, -1, -2, -128, -32769, 0x123456789ABCDEF0, -0x0FEDCBA987654321}
}

// 9.4: each instruction of numbers does what chapter 3 says, above another number that stays.
func TestNumbers(t *testing.T) {
	seen := 0
	for o := range 0x300 {
		many, typ, left := num.Sig(o)
		if many == 0 {
			continue
		}
		seen++
		s := New()
		in := letters([]int{typ})
		if many == 1 {
			added(t, s, module(fun(in+">l"+letters([]int{left}), i64(-9), get(0), op(o))))
			for _, a := range edges(typ) {
				n, _ := num.Un(o, a)
				calls(t, s, f(0), 1, done(0, -9, n), a)
			}
			continue
		}
		added(t, s, module(fun(in+in+">l"+letters([]int{left}), i64(-9), get(0), get(1), op(o))))
		for _, a := range edges(typ) {
			for _, b := range edges(typ) {
				n, trap, _ := num.Bin(o, a, b)
				want := done(0, -9, n)
				if trap != api.NoTrap {
					want = stopped(0, trap)
				}
				calls(t, s, f(0), 1, want, a, b)
			}
		}
	}
	if seen != 66 {
		t.Error(seen)
	}
}

// reached is a store of a module with such a function, tables and memories.
func reached(t *testing.T, tables, mems []api.Limits, sig string, l ...api.Instr) *Store {
	t.Helper()
	s := New()
	m := module(fun(sig, l...))
	m.Tables, m.Mems = tables, mems
	added(t, s, m)
	for i := range mems {
		b := s.Mem(memo(i))
		for p := range b.Pages() {
			b.Write(p*api.Page, text(p+7*i))
			b.Write((p+1)*api.Page-50, text(p+7*i+3))
		}
	}
	return s
}

// text is some bytes, not many of which are alike.
func text(from int) string {
	b := make([]byte, 50)
	for i := range b {
		b[i] = byte((i+from)*37 + 129)
	}
	return string(b)
}

// all is a memory's bytes.
func all(b *mem.Mem) string {
	s, _ := b.Read(0, b.Pages()*api.Page)
	return s
}

// offsets are places, and what is put to them, about the end of so many bytes.
func offsets(size int) [][2]int {
	var l [][2]int
	for _, p := range []int{0, 1, 8, size - 9, size - 8, size - 7, size - 4, size - 3, size - 2, size - 1, size, size + 1, 1<<32 - 1, 1<<32 - 8, 1 << 31} {
		for _, a := range []int{0, 1, 2, 7, 8, size - 8, size, 1 << 31, 1<<32 - 1, 1<<32 - 8} {
			if p >= 0 && a >= 0 {
				l = append(l, [2]int{p, a})
			}
		}
	}
	return l
}

// 9.4: each load and store does what chapter 4 says, at the place and A together, in the memory M.
func TestLoadsStores(t *testing.T) {
	seen := 0
	mems := []api.Limits{lim(1, -1), lim(2, 2), lim(0, 1)}
	for o := range 0x300 {
		width, typ, stores := mem.Width(o)
		if width == 0 {
			continue
		}
		seen++
		for m, l := range mems {
			for i, p := range offsets(l.Min * api.Page) {
				v := edges(typ)[i%len(edges(typ))]
				at := p[0] + p[1]
				if stores {
					s := reached(t, nil, mems, "i"+letters([]int{typ})+">l", i64(-9), get(0), get(1), op(o, p[1], m))
					before := s.Mem(memo(m)).Clone()
					want := done(0, -9)
					if trap := before.Store(o, at, v); trap != api.NoTrap {
						want = stopped(0, trap)
					}
					calls(t, s, f(0), 1, want, p[0], v)
					if all(s.Mem(memo(m))) != all(before) {
						t.Errorf("%x %v %d: other bytes", o, p, v)
					}
					continue
				}
				s := reached(t, nil, mems, "i>l"+letters([]int{typ}), i64(-9), get(0), op(o, p[1], m))
				before := s.Mem(memo(m)).Clone()
				n, trap := before.Load(o, at)
				want := done(0, -9, n)
				if trap != api.NoTrap {
					want = stopped(0, trap)
				}
				calls(t, s, f(0), 1, want, p[0])
				if all(s.Mem(memo(m))) != all(before) {
					t.Errorf("%x %v: other bytes", o, p)
				}
			}
		}
	}
	if seen != 19 {
		t.Error(seen)
	}
}

// 9.4: MemorySize, and MemoryGrow to a memory's Max, and beyond.
func TestMemoryGrow(t *testing.T) {
	for _, x := range []struct {
		l     api.Limits
		steps [][2]int
	}{
		{lim(0, -1), [][2]int{{0, 0}, {1, 0}, {17, -1}, {16, -1}, {15, 1}, {1, -1}, {0, 16}, {1<<32 - 1, -1}}},
		{lim(1, 3), [][2]int{{3, -1}, {1 << 31, -1}, {1<<32 - 1, -1}, {2, 1}, {1, -1}, {0, 3}}},
		{lim(2, 2), [][2]int{{1, -1}, {0, 2}, {1<<32 - 2, -1}}},
	} {
		s := reached(t, nil, []api.Limits{lim(5, -1), x.l}, "i>iiii", op(0x3F, 0, 1), get(0), op(0x40, 0, 1), op(0x3F, 0, 1), op(0x3F))
		b := s.Mem(memo(1))
		for _, step := range x.steps {
			was, before := b.Pages(), all(b)
			told, is := was, was+step[0]
			if step[1] == -1 {
				told, is = 1<<32-1, was
			}
			if step[1] != -1 && step[1] != was {
				t.Error(x.l, step, was)
			}
			calls(t, s, f(0), 1, done(0, was, told, is, 5), step[0])
			if b != s.Mem(memo(1)) || b.Pages() != is || all(b) != before+string(make([]byte, (is-was)*api.Page)) {
				t.Errorf("%v %v: %d pages", x.l, step, b.Pages())
			}
		}
	}
}

// counts are places, and how many, about the end of so many things.
func counts(size int) [][2]int {
	var l [][2]int
	for _, at := range []int{0, 1, 3, size - 5, size - 1, size, size + 1, 1 << 31, 1<<32 - 1} {
		for _, n := range []int{0, 1, 2, 5, size - 1, size, size + 1, size - at, size - at + 1, 1<<32 - at, 1 << 31, 1<<32 - 1} {
			if at >= 0 && n >= 0 && n < 1<<32 {
				l = append(l, [2]int{at, n})
			}
		}
	}
	return l
}

// fits tells whether n things from a place on are within so many.
func fits(at, n, size int) bool { return at+n <= size }

// 9.4: MemoryFill, at its bounds, and what it fills.
func TestMemoryFill(t *testing.T) {
	mems := []api.Limits{lim(1, -1), lim(2, -1), lim(0, -1)}
	for m, l := range mems {
		s := reached(t, nil, mems, "iii>l", i64(-9), get(0), get(1), get(2), op(0xFC0B, 0, m))
		size := l.Min * api.Page
		b := s.Mem(memo(m))
		for i, p := range counts(size) {
			v := edges(0x7F)[i%len(edges(0x7F))]
			before := all(b)
			if !fits(p[0], p[1], size) {
				calls(t, s, f(0), 1, stopped(0, api.TrapMemory), p[0], v, p[1])
				if all(b) != before {
					t.Errorf("%v: something is done", p)
				}
				continue
			}
			calls(t, s, f(0), 1, done(0, -9), p[0], v, p[1])
			if all(b) != before[:p[0]]+strings.Repeat(string([]byte{byte(v)}), p[1])+before[p[0]+p[1]:] {
				t.Errorf("%v: other bytes", p)
			}
			b.Write(0, before)
		}
	}
}

// 9.4: MemoryCopy, within a memory and between two, at its bounds, and where both parts lie over one another.
func TestMemoryCopy(t *testing.T) {
	mems := []api.Limits{lim(1, -1), lim(2, -1), lim(0, -1)}
	for from, lf := range mems {
		for to, lt := range mems {
			s := reached(t, nil, mems, "iii>l", i64(-9), get(0), get(1), get(2), op(0xFC0A, from, to))
			sf, st := lf.Min*api.Page, lt.Min*api.Page
			src, dst := s.Mem(memo(from)), s.Mem(memo(to))
			places := []int{0, 1, 4, 40, st - 8, st - 1, st, st + 1, sf - 8, sf - 1, sf, sf + 1, 1 << 31, 1<<32 - 1}
			for _, at := range places {
				for _, place := range places {
					for _, n := range []int{0, 1, 5, 8, 60, sf, st, sf + 1, 1<<32 - 1, 1<<32 - 40} {
						if at < 0 || place < 0 {
							continue
						}
						source, dest := all(src), all(dst)
						if !fits(at, n, st) || !fits(place, n, sf) {
							calls(t, s, f(0), 1, stopped(0, api.TrapMemory), at, place, n)
							if all(src) != source || all(dst) != dest {
								t.Errorf("%d %d %d: something is done", at, place, n)
							}
							continue
						}
						calls(t, s, f(0), 1, done(0, -9), at, place, n)
						if all(dst) != dest[:at]+source[place:place+n]+dest[at+n:] || from != to && all(src) != source {
							t.Errorf("%d %d %d: other bytes", at, place, n)
						}
						dst.Write(0, dest)
					}
				}
			}
		}
	}
}

// tabled is a store of a module with such a function, 10 functions before it, and tables of 7 places and 4, filled with these.
func tabled(t *testing.T, sig string, l ...api.Instr) *Store {
	t.Helper()
	s := New()
	m := module(fun(sig, l...))
	for range 10 {
		m.Imports = append(m.Imports, api.Import{T: 1})
		host(t, s, ">", 0)
	}
	m = sigs(m, ">")
	m.Tables = []api.Limits{lim(7, -1), lim(4, 9)}
	m.Elems = []api.Elem{{Off: i32(0), F: []int{0, 1, 2, 3, 4, 5, 6}}, {Table: 1, Off: i32(0), F: []int{9, 8, 7}}}
	var link []api.Extern
	for i := range 10 {
		link = append(link, f(i))
	}
	added(t, s, m, link...)
	return s
}

// hold asks what is in both tables.
func hold(t *testing.T, s *Store, one, two []int) {
	t.Helper()
	a, _ := s.Table(tab(0))
	b, _ := s.Table(tab(1))
	if !slices.Equal(a, one) || !slices.Equal(b, two) {
		t.Errorf("%v %v, want %v %v", a, b, one, two)
	}
}

var seven, four = []int{1, 2, 3, 4, 5, 6, 7}, []int{10, 9, 8, 0}

// 9.4: TableGet, TableSet, TableSize.
func TestTableGetSet(t *testing.T) {
	get2 := []*Store{tabled(t, "i>lr", i64(-9), get(0), op(0x25)), tabled(t, "i>lr", i64(-9), get(0), op(0x25, 0, 1))}
	for m, l := range [][]int{seven, four} {
		for i, want := range l {
			calls(t, get2[m], f(10), 1, done(0, -9, want), i)
		}
		for _, i := range []int{len(l), len(l) + 1, 1 << 31, 1<<32 - 1} {
			calls(t, get2[m], f(10), 1, stopped(0, api.TrapTable), i)
		}
		hold(t, get2[m], seven, four)
	}
	for m, l := range [][]int{seven, four} {
		s := tabled(t, "ir>l", i64(-9), get(0), get(1), op(0x26, 0, m))
		for _, i := range []int{len(l), len(l) + 1, 1 << 31, 1<<32 - 1} {
			calls(t, s, f(10), 1, stopped(0, api.TrapTable), i, 3)
			hold(t, s, seven, four)
		}
		want := [][]int{slices.Clone(seven), slices.Clone(four)}
		for i := range l {
			for _, ref := range []int{0, 11, 5} {
				want[m][i] = ref
				calls(t, s, f(10), 1, done(0, -9), i, ref)
				hold(t, s, want[0], want[1])
			}
		}
	}
	calls(t, tabled(t, ">ii", op(0xFC10, 0, 1), op(0xFC10)), f(10), 1, done(0, 4, 7))
}

// 9.4: TableGrow, to a table's Max, and beyond.
func TestTableGrow(t *testing.T) {
	for m, x := range []struct {
		l     []int
		steps [][2]int
	}{
		{seven, [][2]int{{0, 7}, {1018, -1}, {1 << 31, -1}, {1<<32 - 1, -1}, {2, 7}, {1015, 9}, {1, -1}, {0, 1024}}},
		{four, [][2]int{{6, -1}, {1<<32 - 4, -1}, {1, 4}, {5, -1}, {4, 5}, {1, -1}, {0, 9}}},
	} {
		s := tabled(t, "ri>lii", i64(-9), get(0), get(1), op(0xFC0F, 0, m), op(0xFC10, 0, m))
		want := [][]int{slices.Clone(seven), slices.Clone(four)}
		for i, step := range x.steps {
			ref, told := i%3*5, step[1]
			if told == -1 {
				told = 1<<32 - 1
			} else {
				for range step[0] {
					want[m] = append(want[m], ref)
				}
			}
			calls(t, s, f(10), 1, done(0, -9, told, len(want[m])), ref, step[0])
			hold(t, s, want[0], want[1])
		}
	}
	// What has grown is called, and is kept apart from another table that grows as much.
	s := tabled(t, ">", op(0xD2), i32(1), op(0xFC0F), op(0x1A), op(0xD2, 1), i32(1), op(0xFC0F, 0, 1), op(0x1A), i32(7), op(0x11, 1))
	calls(t, s, f(10), 2, asking(0, 0))
	hold(t, s, append(slices.Clone(seven), 1), append(slices.Clone(four), 2))
}

// 9.4: TableFill, at its bounds, and what it fills.
func TestTableFill(t *testing.T) {
	for m, l := range [][]int{seven, four} {
		for i, p := range counts(len(l)) {
			s := tabled(t, "iri>l", i64(-9), get(0), get(1), get(2), op(0xFC11, 0, m))
			ref := i % 12
			want := [][]int{slices.Clone(seven), slices.Clone(four)}
			if !fits(p[0], p[1], len(l)) {
				calls(t, s, f(10), 1, stopped(0, api.TrapTable), p[0], ref, p[1])
				hold(t, s, seven, four)
				continue
			}
			for k := range p[1] {
				want[m][p[0]+k] = ref
			}
			calls(t, s, f(10), 1, done(0, -9), p[0], ref, p[1])
			hold(t, s, want[0], want[1])
		}
	}
}

// 9.4: TableCopy, within a table and between two, at its bounds, and where both parts lie over one another.
func TestTableCopy(t *testing.T) {
	lists := [][]int{seven, four}
	for from := range lists {
		for to := range lists {
			sf, st := len(lists[from]), len(lists[to])
			for _, at := range []int{0, 1, 2, 3, 4, 5, 6, 7, 8, 1 << 31, 1<<32 - 1} {
				for _, place := range []int{0, 1, 2, 3, 4, 5, 6, 7, 8, 1 << 31, 1<<32 - 1} {
					for _, n := range []int{0, 1, 2, 3, 4, 5, 6, 7, 8, 1 << 31, 1<<32 - 1, 1<<32 - 3} {
						s := tabled(t, "iii>l", i64(-9), get(0), get(1), get(2), op(0xFC0E, from, to))
						if !fits(at, n, st) || !fits(place, n, sf) {
							calls(t, s, f(10), 1, stopped(0, api.TrapTable), at, place, n)
							hold(t, s, seven, four)
							continue
						}
						want := [][]int{slices.Clone(seven), slices.Clone(four)}
						copy(want[to][at:], slices.Clone(lists[from][place:place+n]))
						calls(t, s, f(10), 1, done(0, -9), at, place, n)
						hold(t, s, want[0], want[1])
					}
				}
			}
		}
	}
}

// 9.2, 9.4: what one instance does to what it imports, another one sees.
func TestShared(t *testing.T) {
	s := New()
	m := module(fun(">iir", op(0x23), i32(3), op(0x2D), i32(1), op(0x25)))
	m.Tables, m.Mems, m.Globals = []api.Limits{lim(2, -1)}, []api.Limits{lim(1, -1)}, []api.Global{{T: 0x7F, Mut: true, Init: i32(0)}}
	added(t, s, m)
	n := module(fun("i>", get(0), op(0x24), i32(3), get(0), op(0x3A), i32(1), op(0xD2), op(0x26), i32(1), op(0x40), op(0x1A)))
	n.Imports = []api.Import{{Kind: 3, T: 0x7F, Mut: true}, {Kind: 2, Lim: lim(0, -1)}, {Kind: 1, Lim: lim(0, -1)}}
	added(t, s, n, glob(0), memo(0), tab(0))
	calls(t, s, f(0), 1, done(0, 0, 0, 0))
	calls(t, s, f(1), 1, done(0), 200)
	calls(t, s, f(0), 1, done(0, 200, 200, 2))
	if s.Mem(memo(0)).Pages() != 2 {
		t.Error(s.Mem(memo(0)).Pages())
	}
}
