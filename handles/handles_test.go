package handles

import (
	"slices"
	"testing"

	"scarf/api"
)

// 16.1: how many instances and resources there may be, and who makes them.
func TestNew(t *testing.T) {
	zeros := func(n int) []int { return make([]int, n) }
	for _, x := range []struct {
		insts int
		maker []int
		e     api.Errno
	}{
		{1, nil, api.OK}, {4, nil, api.OK}, {1, []int{}, api.OK}, {2, []int{1, 0, 1}, api.OK}, {4, []int{3, 2, 1, 0}, api.OK}, {1, zeros(16), api.OK}, {4, zeros(16), api.OK},
		{0, nil, api.ErrArg}, {-1, nil, api.ErrArg}, {5, nil, api.ErrArg}, {least, nil, api.ErrArg}, {most, nil, api.ErrArg}, {0, zeros(1), api.ErrArg}, {5, zeros(1), api.ErrArg}, {most, []int{7}, api.ErrArg},
		{1, zeros(17), api.ErrArg}, {4, zeros(17), api.ErrArg}, {4, zeros(5000), api.ErrArg},
		{1, []int{1}, api.ErrArg}, {1, []int{-1}, api.ErrArg}, {4, []int{4}, api.ErrArg}, {3, []int{0, 1, 2, 3}, api.ErrArg}, {3, []int{-1, 1, 2}, api.ErrArg}, {3, []int{0, least, 2}, api.ErrArg}, {3, []int{0, 0, most}, api.ErrArg},
	} {
		got, e := New(x.insts, x.maker...)
		if e != x.e || (got == nil) != (e != api.OK) {
			t.Errorf("%d, %v: %v, %d, not %d", x.insts, x.maker, got, e, x.e)
			continue
		}
		if got == nil {
			continue
		}
		for i := -1; i < 6; i++ {
			if l := got.Handles(i); len(l) > 0 {
				t.Errorf("%d, %v: the instance %d has %v from the beginning on", x.insts, x.maker, i, l)
			}
			if trap := got.Clone().Enter(i); (trap == api.NoTrap) != (i >= 0 && i < x.insts) {
				t.Errorf("%d instances: Enter(%d) is %d", x.insts, i, trap)
			}
			for r := -1; r < 18; r++ {
				_, trap := got.Clone().Make(i, r, 0)
				made := r >= 0 && r < len(x.maker) && x.maker[r] == i
				if (trap == api.NoTrap) != made {
					t.Errorf("%d, %v: Make(%d, %d, 0) is %d", x.insts, x.maker, i, r, trap)
				}
			}
		}
		if l := got.Calls(); len(l) > 0 {
			t.Errorf("calls %v from the beginning on", l)
		}
	}
}

// The chapter's example.
func TestExample(t *testing.T) {
	b := pair(2, 0)
	b.want(t, mk(0, 0, 7), gives(1))
	b.want(t, enter(1), gives(0))
	b.want(t, lend(0, 0, 1), gives(7))
	b.want(t, borrow(1, 0, 7), gives(1))
	b.want(t, drop(0, 0, 1), traps(api.TrapBorrow))
	b.want(t, leave(), traps(api.TrapBorrow))
	b.want(t, drop(1, 0, 1), gone(7, false))
	b.want(t, leave(), gives(0))
	b.want(t, drop(0, 0, 1), gone(7, true))
}

// 16.2: what is made stands for what it was made for, as long as it is there.
func TestMake(t *testing.T) {
	b := pair(3, 0, 1, 0)
	b.want(t, mk(0, 0, 0), gives(1))
	b.want(t, mk(0, 2, top), gives(2))
	b.want(t, mk(0, 0, 0), gives(3))
	b.want(t, mk(1, 1, 5), gives(1))
	for _, s := range []step{
		mk(0, 1, 5), mk(1, 0, 5), mk(1, 2, 5), mk(2, 0, 5), mk(2, 1, 5), mk(0, -1, 5), mk(0, 3, 5), mk(0, least, 5), mk(0, most, 5),
		mk(-1, 0, 5), mk(3, 0, 5), mk(least, 0, 5), mk(most, 0, 5), mk(-1, -1, 5), mk(0, 0, -1), mk(0, 0, top+1), mk(0, 0, least), mk(0, 0, most), mk(1, 1, -1), mk(1, 1, top+1),
	} {
		b.want(t, s, traps(api.TrapHandle))
	}
	b.holds(t, 0, owned(1, 0, 0), owned(2, 2, top), owned(3, 0, 0))
	b.holds(t, 1, owned(1, 1, 5))
	b.holds(t, 2)
}

// 16.2: a resource's maker alone is told what a handle stands for.
func TestRep(t *testing.T) {
	b := pair(2, 0, 1, 0)
	b.want(t, mk(0, 0, 7), gives(1))
	b.want(t, mk(0, 2, top), gives(2))
	b.want(t, put(0, 1, 9), gives(3))
	b.want(t, put(1, 0, 8), gives(1))
	b.want(t, mk(1, 1, 0), gives(2))
	for _, h := range noHandles(b, 0, 0) {
		b.want(t, rep(h.i, h.r, h.x), traps(api.TrapHandle))
	}
	b.want(t, rep(0, 0, 1), gives(7))
	b.want(t, rep(0, 2, 2), gives(top))
	b.want(t, rep(0, 1, 3), traps(api.TrapHandle))
	b.want(t, rep(1, 0, 1), traps(api.TrapHandle))
	b.want(t, rep(1, 1, 2), gives(0))
	b.want(t, enter(1), gives(0))
	b.want(t, lend(0, 0, 1), gives(7))
	b.want(t, rep(0, 0, 1), gives(7))
	b.want(t, borrow(1, 0, 6), gives(3))
	b.want(t, rep(1, 0, 3), traps(api.TrapHandle))
	b.want(t, drop(0, 2, 2), gone(top, true))
	b.want(t, rep(0, 2, 2), traps(api.TrapHandle))
}

// noHandles tells places at which there is no handle of the resource r of the instance i: no such instance, resource or index, and those of others.
func noHandles(b both, i, r int) []step {
	var l []step
	for _, i := range []int{-1, 2, 3, 4, 5, least, most} {
		l = append(l, rep(i, 0, 1), rep(i, 1, 1), rep(i, -1, 1))
	}
	for _, r := range []int{-1, 3, 15, 16, least, most} {
		l = append(l, rep(0, r, 1), rep(0, r, 0), rep(1, r, 1))
	}
	there := map[int]bool{}
	for _, x := range b.t.Handles(i) {
		there[x.H] = x.R == r
	}
	for _, h := range []int{-1, 0, 1, 2, 3, 4, 5, 255, 256, 257, 1 << 32, 1<<32 + 1, least, least + 1, most} {
		if !there[h] {
			l = append(l, rep(i, r, h))
		}
	}
	return l
}

// Rep, Drop, Take and Lend of what there is not: nothing is done.
func TestNoHandle(t *testing.T) {
	b := pair(2, 0, 1, 0)
	b.want(t, mk(0, 0, 7), gives(1))
	b.want(t, mk(0, 2, 6), gives(2))
	b.want(t, put(0, 1, 9), gives(3))
	b.want(t, put(1, 0, 8), gives(1))
	for range 2 {
		for r := range 3 {
			for _, s := range noHandles(b, 0, r) {
				for _, op := range []string{"rep", "drop", "take", "lend"} {
					s.op = op
					b.want(t, s, traps(api.TrapHandle))
				}
			}
		}
		b.want(t, enter(len(b.t.Calls())), gives(0))
	}
}

// 16.2: a handle is given up, if it is not lent.
func TestDrop(t *testing.T) {
	b := pair(2, 0, 1)
	b.want(t, mk(0, 0, 7), gives(1))
	b.want(t, put(1, 0, top), gives(1))
	b.want(t, put(0, 1, 0), gives(2))
	b.want(t, drop(1, 0, 1), gone(top, true))
	b.want(t, drop(1, 0, 1), traps(api.TrapHandle))
	b.want(t, drop(0, 1, 2), gone(0, true))
	b.want(t, enter(1), gives(0))
	b.want(t, lend(0, 0, 1), gives(7))
	b.want(t, borrow(1, 0, 7), gives(1))
	b.want(t, drop(0, 0, 1), traps(api.TrapBorrow))
	b.want(t, drop(0, 1, 1), traps(api.TrapHandle))
	b.want(t, drop(1, 0, 1), gone(7, false))
	b.want(t, leave(), gives(0))
	b.want(t, drop(0, 0, 1), gone(7, true))
	b.want(t, drop(0, 0, 1), traps(api.TrapHandle))
	b.holds(t, 0)
	b.holds(t, 1)
}

// 16.3: what is owned is taken out of a table, if it is not lent, and put into one, whoever makes it.
func TestTakeAndPut(t *testing.T) {
	b := pair(3, 0, 1)
	b.want(t, mk(0, 0, 7), gives(1))
	b.want(t, take(0, 0, 1), gives(7))
	b.want(t, take(0, 0, 1), traps(api.TrapHandle))
	b.want(t, put(2, 0, 7), gives(1))
	b.want(t, take(2, 0, 1), gives(7))
	b.want(t, put(0, 0, 7), gives(1))
	b.want(t, put(0, 1, 0), gives(2))
	b.want(t, put(1, 0, top), gives(1))
	for _, s := range []step{
		put(-1, 0, 7), put(3, 0, 7), put(4, 0, 7), put(least, 0, 7), put(most, 0, 7), put(0, -1, 7), put(0, 2, 7), put(0, least, 7), put(0, most, 7), put(0, 0, -1), put(0, 0, top+1), put(0, 0, least), put(0, 0, most), put(2, 1, -1),
	} {
		b.want(t, s, traps(api.TrapHandle))
		s.op = "borrow"
		b.want(t, s, traps(api.TrapHandle))
	}
	b.want(t, enter(2), gives(0))
	b.want(t, borrow(2, 1, 5), gives(1))
	b.want(t, take(2, 1, 1), traps(api.TrapHandle))
	b.want(t, lend(2, 1, 1), gives(5))
	b.want(t, take(2, 1, 1), traps(api.TrapHandle))
	b.want(t, lend(0, 0, 1), gives(7))
	b.want(t, take(0, 0, 1), traps(api.TrapBorrow))
	b.want(t, take(0, 1, 1), traps(api.TrapHandle))
	b.want(t, take(0, 1, 2), gives(0))
	b.holds(t, 0, api.Handle{H: 1, Rep: 7, Own: true, Lends: 1})
	b.holds(t, 1, owned(1, 0, top))
	b.holds(t, 2, api.Handle{H: 1, R: 1, Rep: 5, Lends: 1, Call: 1})
}

// A new handle has the least index that is free, whatever it is and whichever were given up.
func TestLeastIndex(t *testing.T) {
	for _, given := range [][]int{{1}, {5}, {3}, {2, 4}, {4, 2}, {1, 2, 3, 4, 5}, {5, 4, 3, 2, 1}, {3, 5, 1}} {
		for _, op := range []string{"make", "put", "borrow"} {
			b := pair(2, 0, 1)
			b.want(t, enter(1), gives(0))
			for n := range 5 {
				b.want(t, mk(0, 0, n), gives(n+1))
			}
			for _, h := range given {
				b.want(t, drop(0, 0, h), gone(h-1, true))
			}
			r := 0
			if op == "borrow" {
				r = 1
			}
			rising := slices.Sorted(slices.Values(given))
			for _, h := range append(rising, 6, 7) {
				b.want(t, step{op, 0, r, 9}, gives(h))
			}
		}
	}
}

// A table has at most MaxHandles, whatever they are; another one has room of its own.
func TestFull(t *testing.T) {
	b := pair(2, 0, 1)
	b.want(t, enter(0), gives(0))
	for h := 1; h <= api.MaxHandles; h++ {
		s := []step{mk(0, 0, h), put(0, 0, h), put(0, 1, h), borrow(0, 1, h)}[h%4]
		b.want(t, s, gives(h))
	}
	full := []step{mk(0, 0, 0), put(0, 0, 0), put(0, 1, top), borrow(0, 1, 0)}
	for _, s := range full {
		b.want(t, s, traps(api.TrapTable))
	}
	// What is no handle is none, full or not; and what an instance made itself needs no room.
	for _, s := range []step{mk(0, 1, 0), mk(0, 0, -1), put(0, 2, 0), put(0, 0, top+1), borrow(0, 1, -1), borrow(0, -1, 0)} {
		b.want(t, s, traps(api.TrapHandle))
	}
	b.want(t, borrow(0, 0, 99), gives(99))
	b.want(t, put(1, 0, 5), gives(1))
	for n, s := range full {
		h := []int{256, 100, 1, 255}[n]
		got := b.run(t, drop(0, h%4/2, h))
		if got.trap != api.NoTrap {
			got = b.run(t, drop(0, 1-h%4/2, h))
		}
		if got.n != h || got.trap != api.NoTrap {
			t.Fatalf("the handle %d: %v", h, got)
		}
		b.want(t, s, gives(h))
		b.want(t, s, traps(api.TrapTable))
	}
}

// 16.3: what is lent is lent until the call ends for which it was.
func TestLend(t *testing.T) {
	b := pair(3, 0)
	b.want(t, mk(0, 0, 7), gives(1))
	b.want(t, mk(0, 0, 8), gives(2))
	b.want(t, lend(0, 0, 1), traps(api.TrapHandle))
	b.want(t, enter(0), gives(0))
	b.want(t, lend(0, 0, 1), gives(7))
	b.want(t, lend(0, 0, 1), gives(7))
	b.want(t, enter(1), gives(0))
	b.want(t, lend(0, 0, 2), gives(8))
	b.want(t, lend(0, 0, 1), gives(7))
	b.holds(t, 0, api.Handle{H: 1, Rep: 7, Own: true, Lends: 3}, api.Handle{H: 2, Rep: 8, Own: true, Lends: 1})
	b.want(t, leave(), gives(0))
	b.holds(t, 0, api.Handle{H: 1, Rep: 7, Own: true, Lends: 2}, owned(2, 0, 8))
	b.want(t, drop(0, 0, 1), traps(api.TrapBorrow))
	b.want(t, take(0, 0, 1), traps(api.TrapBorrow))
	b.want(t, drop(0, 0, 2), gone(8, true))
	b.want(t, leave(), gives(0))
	b.want(t, leave(), traps(api.TrapLeave))
	b.want(t, take(0, 0, 1), gives(7))
	// What comes to the same index behind it is not lent.
	b.want(t, mk(0, 0, 6), gives(1))
	b.holds(t, 0, owned(1, 0, 6))
	b.want(t, enter(2), gives(0))
	b.want(t, leave(), gives(0))
	b.holds(t, 0, owned(1, 0, 6))
}

// 16.3: what is borrowed comes as a handle of the innermost call, to all but to who made it.
func TestBorrow(t *testing.T) {
	b := pair(3, 0, 1)
	for i := range 3 {
		for r := range 2 {
			b.want(t, borrow(i, r, 7), traps(api.TrapHandle))
		}
	}
	b.want(t, enter(2), gives(0))
	b.want(t, borrow(0, 0, 7), gives(7))
	b.want(t, borrow(0, 0, 0), gives(0))
	b.want(t, borrow(1, 1, top), gives(top))
	b.want(t, borrow(0, 1, 7), gives(1))
	b.want(t, borrow(0, 1, 7), gives(2))
	b.want(t, enter(0), gives(0))
	b.want(t, borrow(2, 1, top), gives(1))
	b.want(t, borrow(2, 0, 0), gives(2))
	b.holds(t, 0, lentFor(1, 1, 1, 7), lentFor(1, 2, 1, 7))
	b.holds(t, 1)
	b.holds(t, 2, lentFor(2, 1, 1, top), lentFor(2, 2, 0, 0))
	// One that is borrowed may be lent on, and isn't given up while it is.
	b.want(t, lend(0, 1, 1), gives(7))
	b.want(t, drop(0, 1, 1), traps(api.TrapBorrow))
	b.want(t, drop(0, 1, 2), gone(7, false))
	b.want(t, leave(), traps(api.TrapBorrow))
	b.want(t, drop(2, 1, 1), gone(top, false))
	b.want(t, leave(), traps(api.TrapBorrow))
	b.want(t, drop(2, 0, 2), gone(0, false))
	b.want(t, leave(), gives(0))
	b.want(t, leave(), traps(api.TrapBorrow))
	b.want(t, drop(0, 1, 1), gone(7, false))
	b.want(t, leave(), gives(0))
}
