package handles

import (
	"slices"
	"testing"

	"scarf/api"
)

// 16.4: an instance is entered once; there are fewer instances than calls may be.
func TestEnter(t *testing.T) {
	for insts := 1; insts <= api.MaxInsts; insts++ {
		b := pair(insts)
		for _, i := range []int{-1, insts, insts + 1, api.MaxCalls, least, most} {
			b.want(t, enter(i), traps(api.TrapEnter))
		}
		for n := range insts {
			i := insts - 1 - n
			b.want(t, enter(i), gives(0))
			for j := i; j < insts; j++ {
				b.want(t, enter(j), traps(api.TrapEnter))
			}
		}
		for _, i := range []int{-1, insts, insts + 1, 0} {
			b.want(t, enter(i), traps(api.TrapEnter))
		}
	}
}

// 16.4: the innermost call ends, and no other one; behind it its instance may be entered again.
func TestLeave(t *testing.T) {
	b := pair(3)
	b.want(t, leave(), traps(api.TrapLeave))
	for range 3 {
		b.want(t, enter(1), gives(0))
		b.want(t, enter(2), gives(0))
		b.want(t, leave(), gives(0))
		b.want(t, enter(1), traps(api.TrapEnter))
		b.want(t, enter(2), gives(0))
		b.want(t, enter(0), gives(0))
		if l := b.t.Calls(); !slices.Equal(l, []int{1, 2, 0}) {
			t.Fatal(l)
		}
		for range 3 {
			b.want(t, leave(), gives(0))
		}
		b.want(t, leave(), traps(api.TrapLeave))
	}
}

// 16.4: a borrowed handle in any table holds its call up, and that one alone; one that is owned does not.
func TestLeaveBorrowed(t *testing.T) {
	for where := range 3 {
		b := pair(4, 3)
		for i := range 4 {
			b.want(t, put(i, 0, i), gives(1))
		}
		b.want(t, enter(0), gives(0))
		b.want(t, enter(1), gives(0))
		b.want(t, borrow(where, 0, 7), gives(2))
		b.want(t, enter(2), gives(0))
		b.want(t, leave(), gives(0))
		b.want(t, leave(), traps(api.TrapBorrow))
		b.want(t, leave(), traps(api.TrapBorrow))
		b.want(t, drop(where, 0, 2), gone(7, false))
		b.want(t, borrow(where, 0, 8), gives(2))
		b.want(t, leave(), traps(api.TrapBorrow))
		b.want(t, drop(where, 0, 2), gone(8, false))
		b.want(t, leave(), gives(0))
		b.want(t, borrow(where, 0, 9), gives(2))
		b.holds(t, where, owned(1, 0, where), lentFor(1, 2, 0, 9))
		b.want(t, leave(), traps(api.TrapBorrow))
		b.want(t, drop(where, 0, 2), gone(9, false))
		b.want(t, leave(), gives(0))
	}
}

// 16.4: what was lent for a call is lent as often less, in all tables; what was lent for others stays lent. A call that doesn't end gives nothing back.
func TestLeaveLent(t *testing.T) {
	b := pair(4, 0, 1)
	for i := range 4 {
		b.want(t, put(i, 0, 10+i), gives(1))
		b.want(t, put(i, 1, 20+i), gives(2))
	}
	b.want(t, enter(3), gives(0))
	b.want(t, lend(1, 1, 2), gives(21))
	b.want(t, enter(2), gives(0))
	for i := range 4 {
		for range i + 1 {
			b.want(t, lend(i, 0, 1), gives(10+i))
		}
		b.want(t, lend(i, 1, 2), gives(20+i))
	}
	b.want(t, borrow(2, 1, 30), gives(3))
	b.want(t, leave(), traps(api.TrapBorrow))
	for i := range 4 {
		b.want(t, drop(i, 0, 1), traps(api.TrapBorrow))
	}
	b.want(t, drop(2, 1, 3), gone(30, false))
	b.want(t, leave(), gives(0))
	b.want(t, drop(1, 1, 2), traps(api.TrapBorrow))
	for i := range 4 {
		b.want(t, drop(i, 0, 1), gone(10+i, true))
	}
	b.want(t, leave(), gives(0))
	for i := range 4 {
		b.want(t, take(i, 1, 2), gives(20+i))
		b.holds(t, i)
	}
}

// Lends go as deep as calls may: each call gives back its own.
func TestLendDeep(t *testing.T) {
	b := pair(4, 0)
	b.want(t, mk(0, 0, 7), gives(1))
	for i := range 4 {
		b.want(t, enter(3-i), gives(0))
		for range 1000 * i {
			b.t.Lend(0, 0, 1)
			b.p.does(lend(0, 0, 1))
		}
		b.want(t, lend(0, 0, 1), gives(7))
	}
	for i := range 4 {
		left := []int{3003, 1002, 1, 0}[i]
		b.want(t, leave(), gives(0))
		b.holds(t, 0, api.Handle{H: 1, Rep: 7, Own: true, Lends: left})
	}
	b.want(t, drop(0, 0, 1), gone(7, true))
}
