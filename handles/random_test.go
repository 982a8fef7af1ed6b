package handles

import (
	"math/rand"
	"reflect"
	"testing"

	"scarf/api"
)

// maker makes calls by chance, of which most may be made.
type maker struct {
	*rand.Rand
	insts, res int
}

// number tells one below n, seldom another one.
func (m maker) number(n int) int {
	if n == 0 || m.Intn(40) == 0 {
		return []int{-1, n, n + 1, 255, 256, 257, 1 << 32, least, most}[m.Intn(9)]
	}
	return m.Intn(n)
}

// rep tells a number that a handle stands for, seldom another one.
func (m maker) rep() int {
	if m.Intn(30) == 0 {
		return []int{-1, top, top + 1, least, most, 0}[m.Intn(6)]
	}
	return m.Intn(100)
}

// handle tells a place: most often one at which there is a handle.
func (m maker) handle(p *plain) (int, int, int) {
	if len(p.all) == 0 || m.Intn(10) == 0 {
		return m.number(m.insts), m.number(m.res), m.number(8)
	}
	e := p.all[m.Intn(len(p.all))]
	switch m.Intn(30) {
	case 0:
		return m.number(m.insts), e.r, e.h
	case 1:
		return e.inst, m.number(m.res), e.h
	}
	return e.inst, e.r, e.h
}

// step makes one call; kinds has a letter for each, as often as it is to come.
func (m maker) step(p *plain, kinds string) step {
	i, r, h := m.handle(p)
	switch kinds[m.Intn(len(kinds))] {
	case 'm':
		r = m.number(m.res)
		if r >= 0 && r < m.res {
			return mk(p.maker[r], r, m.rep())
		}
		return mk(m.number(m.insts), r, m.rep())
	case 'p':
		return put(m.number(m.insts), m.number(m.res), m.rep())
	case 'b':
		return borrow(m.number(m.insts), m.number(m.res), m.rep())
	case 'r':
		return rep(i, r, h)
	case 'd':
		return drop(i, r, h)
	case 't':
		return take(i, r, h)
	case 'l':
		return lend(i, r, h)
	case 'e':
		return enter(m.number(m.insts))
	}
	return leave()
}

// plays makes many calls on tables that have so many handles each, on clones of them too, and counts what they answered.
func (m maker) plays(t *testing.T, n, filled int, kinds string, count map[string]int) {
	var makers []int
	for range m.res {
		makers = append(makers, m.Intn(m.insts))
	}
	b := pair(m.insts, makers...)
	for range filled {
		for i := range m.insts {
			b.t.Put(i, 0, 5)
			b.p.put(i, 0, 5)
		}
	}
	for range n {
		if m.Intn(50) == 0 {
			c := both{b.t.Clone(), b.p.clone()}
			was := stateOf(b.t)
			for range 5 {
				c.run(t, m.step(c.p, kinds))
			}
			if now := stateOf(b.t); !reflect.DeepEqual(now, was) {
				t.Fatal(now, was)
			}
			if m.Intn(2) == 0 {
				b = c
			}
		}
		s := m.step(b.p, kinds)
		a := b.run(t, s)
		count[s.op+" "+names[a.trap]]++
	}
}

// names are those of the traps that there are here.
var names = map[api.Trap]string{api.NoTrap: "ok", api.TrapTable: "table", api.TrapHandle: "handle", api.TrapBorrow: "borrow", api.TrapEnter: "enter", api.TrapLeave: "leave"}

// Calls by chance answer what the second reading does, and each answers each of what it may.
func TestRandom(t *testing.T) {
	count := map[string]int{}
	for seed := range 160 {
		m := maker{rand.New(rand.NewSource(int64(seed))), 1 + seed%4, seed * 7 % 17}
		m.plays(t, 200, 0, "mpbbrddtlleeeqqqq", count)
		m.plays(t, 100, 0, "mpbrdddtlleeqqqqqq", count)
	}
	for seed := range 12 {
		m := maker{rand.New(rand.NewSource(int64(seed))), 1 + seed%3, 1 + seed}
		m.plays(t, 200, 250, "mmppppbbbbbrdtle", count)
	}
	for _, x := range []string{
		"make ok", "make handle", "make table", "rep ok", "rep handle", "drop ok", "drop handle", "drop borrow", "take ok", "take handle", "take borrow", "put ok", "put handle", "put table",
		"lend ok", "lend handle", "borrow ok", "borrow handle", "borrow table", "enter ok", "enter enter", "leave ok", "leave leave", "leave borrow",
	} {
		if count[x] < 20 {
			t.Errorf("%s came %d times", x, count[x])
		}
		delete(count, x)
	}
	if len(count) > 0 {
		t.Error(count)
	}
}

// 16.6: what is made is in one table, taken, or dropped, and a handle tells nothing else than what it was made, or put, for.
func TestWhereItIs(t *testing.T) {
	for seed := range 40 {
		m := maker{rand.New(rand.NewSource(int64(seed))), 1 + seed%4, 1 + seed%5}
		var makers []int
		for range m.res {
			makers = append(makers, m.Intn(m.insts))
		}
		b := pair(m.insts, makers...)
		made, taken, dropped := map[int]int{}, map[int]int{}, map[int]bool{}
		for n := range 300 {
			s := m.step(b.p, "mmpdtrleeqqbb")
			switch s.op {
			case "make":
				s.x = n
			case "put":
				// What was taken is put again, and nothing else is.
				for x, r := range taken {
					s.r, s.x = r, x
				}
				if len(taken) == 0 {
					continue
				}
			case "borrow":
				s.x = 1000 + n
			}
			a := b.run(t, s)
			if a.trap == api.NoTrap {
				switch {
				case s.op == "make":
					made[n] = s.r
				case s.op == "take":
					taken[a.n] = s.r
				case s.op == "put":
					delete(taken, s.x)
				case s.op == "drop" && a.own:
					dropped[a.n] = true
				case s.op == "rep" && made[a.n] != s.r:
					t.Fatal("a handle tells what it is not made for", s, a)
				}
			}
			where(t, b.t, made, taken, dropped)
		}
	}
}

// where looks whether each thing that was made is in one place.
func where(t *testing.T, tables *Tables, made, taken map[int]int, dropped map[int]bool) {
	t.Helper()
	found := map[int]int{}
	for i := range api.MaxInsts {
		for _, x := range tables.Handles(i) {
			if x.Own {
				found[x.Rep]++
				if r, ok := made[x.Rep]; !ok || r != x.R {
					t.Fatal("a handle of what was not made", x)
				}
			}
		}
	}
	for x := range made {
		n := found[x]
		if _, ok := taken[x]; ok {
			n++
		}
		if dropped[x] {
			n++
		}
		if n != 1 {
			t.Fatalf("what was made for %d is in %d places", x, n)
		}
	}
}
