package handles

import (
	"fmt"
	"reflect"
	"slices"
	"testing"

	"scarf/api"
)

// least, most are numbers that are none of anything; top is the greatest that a handle stands for.
const (
	least = -1 << 63
	most  = 1<<63 - 1
	top   = 1<<32 - 1
)

// step is one call on tables: which one, and with what.
type step struct {
	op      string
	i, r, x int
}

// said is what a call answers.
type said struct {
	n    int
	own  bool
	trap api.Trap
}

// does makes the call.
func (s step) does(t *Tables) said {
	var a said
	switch s.op {
	case "make":
		a.n, a.trap = t.Make(s.i, s.r, s.x)
	case "rep":
		a.n, a.trap = t.Rep(s.i, s.r, s.x)
	case "drop":
		a.n, a.own, a.trap = t.Drop(s.i, s.r, s.x)
	case "take":
		a.n, a.trap = t.Take(s.i, s.r, s.x)
	case "put":
		a.n, a.trap = t.Put(s.i, s.r, s.x)
	case "lend":
		a.n, a.trap = t.Lend(s.i, s.r, s.x)
	case "borrow":
		a.n, a.trap = t.Borrow(s.i, s.r, s.x)
	case "enter":
		a.trap = t.Enter(s.i)
	case "leave":
		a.trap = t.Leave()
	default:
		panic("no such call: " + s.op)
	}
	return a
}

// The calls by their names.
func mk(i, r, rep int) step   { return step{"make", i, r, rep} }
func rep(i, r, h int) step    { return step{"rep", i, r, h} }
func drop(i, r, h int) step   { return step{"drop", i, r, h} }
func take(i, r, h int) step   { return step{"take", i, r, h} }
func put(i, r, rep int) step  { return step{"put", i, r, rep} }
func lend(i, r, h int) step   { return step{"lend", i, r, h} }
func borrow(i, r, n int) step { return step{"borrow", i, r, n} }
func enter(i int) step        { return step{op: "enter", i: i} }
func leave() step             { return step{op: "leave"} }

// gives, traps, gone are answers: a number; a trap; what a dropped handle stood for.
func gives(n int) said             { return said{n: n} }
func traps(trap api.Trap) said     { return said{trap: trap} }
func gone(n int, own bool) said    { return said{n: n, own: own} }
func owned(h, r, n int) api.Handle { return api.Handle{H: h, R: r, Rep: n, Own: true} }
func lentFor(call, h, r, n int) api.Handle {
	return api.Handle{H: h, R: r, Rep: n, Call: call}
}

// fresh makes tables that may be.
func fresh(insts int, maker ...int) *Tables {
	t, e := New(insts, maker...)
	if t == nil || e != api.OK {
		panic(fmt.Sprint(insts, maker, e))
	}
	return t
}

// state is all that tables tell.
type state struct {
	calls []int
	all   [api.MaxInsts][]api.Handle
}

// stateOf tells it.
func stateOf(t *Tables) state {
	s := state{calls: some(t.Calls())}
	for i := range s.all {
		s.all[i] = some(t.Handles(i))
	}
	return s
}

// some tells a list; an empty one is nil.
func some[T any](l []T) []T {
	if len(l) == 0 {
		return nil
	}
	return l
}

// both are tables, and those of the second reading, of which all is asked.
type both struct {
	t *Tables
	p *plain
}

// pair makes both.
func pair(insts int, maker ...int) both {
	return both{fresh(insts, maker...), newPlain(insts, maker)}
}

// run makes a call on both, and looks whether they answer the same, and whether a trap has left all as it was.
func (b both) run(t *testing.T, s step) said {
	t.Helper()
	was := stateOf(b.t)
	got, want := s.does(b.t), b.p.does(s)
	if got != want {
		t.Fatalf("%v of %v: %v, not %v", s, was, got, want)
	}
	now := stateOf(b.t)
	if now2 := b.p.state(); !reflect.DeepEqual(now, now2) {
		t.Fatalf("behind %v of %v: %v, not %v", s, was, now, now2)
	}
	if got.trap != api.NoTrap && !reflect.DeepEqual(now, was) {
		t.Fatalf("%v trapped, and made %v of %v", s, now, was)
	}
	return got
}

// want looks whether a call answers so.
func (b both) want(t *testing.T, s step, want said) {
	t.Helper()
	if got := b.run(t, s); got != want {
		t.Fatalf("%v of %v: %v, not %v", s, stateOf(b.t), got, want)
	}
}

// holds looks whether an instance's handles are those.
func (b both) holds(t *testing.T, i int, l ...api.Handle) {
	t.Helper()
	if got := b.t.Handles(i); !slices.Equal(got, l) {
		t.Fatalf("instance %d: %v, not %v", i, got, l)
	}
}
