package handles

import (
	"reflect"
	"slices"
	"testing"

	"scarf/api"
)

// busy makes tables in which there is something of each kind.
func busy(t *testing.T) both {
	b := pair(3, 0, 1, 2)
	for _, s := range []step{mk(0, 0, 7), mk(0, 0, 8), mk(0, 0, 9), put(0, 2, 6), mk(1, 1, 5), drop(0, 0, 2), enter(2), lend(0, 0, 1), borrow(1, 0, 7), enter(1), lend(0, 0, 1), lend(1, 0, 2), borrow(0, 1, 5), borrow(0, 2, 4)} {
		if a := b.run(t, s); a.trap != api.NoTrap {
			t.Fatal(s, a)
		}
	}
	return b
}

// 16.5: the handles of an instance, rising, and the calls, the outermost first.
func TestTell(t *testing.T) {
	b := busy(t)
	b.holds(t, 0, api.Handle{H: 1, Rep: 7, Own: true, Lends: 2}, lentFor(2, 2, 1, 5), owned(3, 0, 9), owned(4, 2, 6), lentFor(2, 5, 2, 4))
	b.holds(t, 1, owned(1, 1, 5), api.Handle{H: 2, Rep: 7, Lends: 1, Call: 1})
	for _, i := range []int{-1, 2, 3, 4, least, most} {
		b.holds(t, i)
	}
	if l := b.t.Calls(); !slices.Equal(l, []int{2, 1}) {
		t.Error(l)
	}
}

// 16.5: many handles are told rising, however they came.
func TestRising(t *testing.T) {
	b := pair(1, 0)
	var want []api.Handle
	for h := 1; h <= api.MaxHandles; h++ {
		b.t.Make(0, 0, 1000-h)
		if h%3 != 0 {
			want = append(want, owned(h, 0, 1000-h))
		}
	}
	for h := 3; h <= api.MaxHandles; h += 3 {
		b.t.Drop(0, 0, h)
	}
	b.holds(t, 0, want...)
}

// 16.5: what is done to a clone is not done to what it was made of, nor the other way round; both go on alike.
func TestClone(t *testing.T) {
	ends := []step{drop(0, 1, 2), drop(0, 2, 5), leave(), drop(1, 0, 2), enter(0), leave(), leave(), drop(0, 0, 1), drop(0, 0, 3), mk(0, 0, 3), mk(0, 0, 4), take(0, 2, 4), drop(1, 1, 1), leave()}
	for which := range 2 {
		a := busy(t)
		b := both{a.t.Clone(), a.p.clone()}
		was := stateOf(a.t)
		if now := stateOf(b.t); !reflect.DeepEqual(now, was) {
			t.Fatal(now, was)
		}
		if which == 1 {
			a, b = b, a
		}
		for _, s := range ends {
			a.run(t, s)
			if now := stateOf(b.t); !reflect.DeepEqual(now, was) {
				t.Fatalf("%v on one of both: the other one is %v, not %v", s, now, was)
			}
		}
		// What was lent for the calls is given back to each of them apart.
		for _, s := range ends {
			b.run(t, s)
		}
		if x, y := stateOf(a.t), stateOf(b.t); !reflect.DeepEqual(x, y) {
			t.Fatal(x, y)
		}
	}
	// A clone keeps who makes what.
	c := fresh(4, 3, 1).Clone()
	for i := range 4 {
		for r := range 2 {
			if _, trap := c.Make(i, r, 1); (trap == api.NoTrap) != (i == 3-2*r) {
				t.Error(i, r, trap)
			}
		}
	}
}

// R1: nil tables, and those that New did not make, have nothing.
func TestNil(t *testing.T) {
	for _, tables := range []*Tables{nil, {}, (*Tables)(nil).Clone(), (&Tables{}).Clone()} {
		for _, n := range []int{0, 1, -1, 4, least, most} {
			for _, op := range []string{"make", "rep", "drop", "take", "put", "lend", "borrow"} {
				for _, r := range []int{0, -1, 1} {
					if a := (step{op, n, r, 1}).does(tables); a != traps(api.TrapHandle) {
						t.Error(op, n, a)
					}
				}
			}
			if trap := tables.Enter(n); trap != api.TrapEnter {
				t.Error(trap)
			}
			if l := tables.Handles(n); len(l) > 0 {
				t.Error(l)
			}
		}
		if trap := tables.Leave(); trap != api.TrapLeave {
			t.Error(trap)
		}
		if l := tables.Calls(); len(l) > 0 {
			t.Error(l)
		}
	}
	if c := (*Tables)(nil).Clone(); c != nil {
		t.Error(c)
	}
}

// R4: what is handed in is neither changed nor kept; what is told is the asker's own.
func TestOwn(t *testing.T) {
	room := []int{1, 0, 1, 9, 9}
	maker := room[:3]
	b := both{fresh(2, maker...), newPlain(2, maker)}
	maker[0], maker[1], room[3] = 0, 1, 0
	b.want(t, mk(1, 0, 7), gives(1))
	b.want(t, mk(0, 1, 8), gives(1))
	b.want(t, mk(0, 3, 8), traps(api.TrapHandle))
	b.want(t, enter(1), gives(0))
	b.want(t, enter(0), gives(0))
	b.want(t, lend(1, 0, 1), gives(7))
	c := b.t.Clone()
	maker[2] = 0
	was := stateOf(b.t)
	for _, x := range []*Tables{b.t, c} {
		calls, l := x.Calls(), x.Handles(1)
		for i := range calls {
			calls[i] = 77
		}
		for i := range l {
			l[i] = api.Handle{H: 77}
		}
		_ = append(calls, 78)
		_ = append(l, api.Handle{H: 78})
		for _, y := range []*Tables{b.t, c} {
			if now := stateOf(y); !reflect.DeepEqual(now, was) {
				t.Fatal(now, was)
			}
		}
	}
	if !slices.Equal(room, []int{0, 1, 0, 0, 9}) {
		t.Error(room)
	}
	b.want(t, leave(), gives(0))
	b.want(t, mk(1, 2, 7), gives(2))
}
