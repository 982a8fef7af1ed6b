package exec

import (
	"slices"

	"scarf/api"
	"scarf/num"
)

// going is the state of a run that goes on: it is never told of a run that a call answered.
const going = 0

// Run is a call of a function, and all that it calls.
type Run struct {
	store *Store
	kind  int
	trap  api.Trap
	fuel  int
	vals  []int     // what it left, or asks the host with
	asked *function // whom it asks
	calls []call    // those under way, the innermost one last
	stack []int     // of all these: their locals, and the numbers above
}

// call is one that is under way: its function, what it does next, where its locals and the numbers above them begin.
type call struct {
	f            *function
	at           int
	locals, base int
}

// Call begins a call, with fuel, and goes on till it is at its end, is stopped, or asks the host.
func (s *Store) Call(x api.Extern, args []int, fuel int) (*Run, api.Errno) {
	f, ok := find(x, api.KindFunc, s.all().funcs)
	if !ok || !s.suit(args, f.t.P) || fuel < 0 {
		return nil, api.ErrArg
	}
	r := &Run{store: s, fuel: fuel, stack: slices.Clone(args)}
	r.begin(f)
	r.on()
	return r, api.OK
}

// suit tells whether there are just as many numbers as types, each one of its type.
func (s *Store) suit(nums, types []int) bool {
	if len(nums) != len(types) {
		return false
	}
	for i, t := range types {
		if !s.suits(nums[i], t) {
			return false
		}
	}
	return true
}

// suits tells whether a number is one of a type.
func (s *Store) suits(n, t int) bool {
	switch t {
	case api.I32:
		return n == num.U32(n)
	case api.FuncRef:
		return n >= 0 && n <= len(s.funcs)
	}
	return true
}

// Status tells how a run stands.
func (r *Run) Status() api.Status {
	if r == nil {
		return api.Status{}
	}
	st := api.Status{Kind: r.kind, Trap: r.trap, Vals: slices.Clone(r.vals), Fuel: r.fuel}
	if r.asks() {
		st.Tag = r.asked.tag
	}
	return st
}

// asks tells whether a run asks the host.
func (r *Run) asks() bool { return r != nil && r.kind == api.RunAsks }

// Answer answers a run that asks the host.
func (r *Run) Answer(vals ...int) api.Errno {
	if !r.asks() {
		return api.ErrState
	}
	if !r.store.suit(vals, r.asked.t.R) {
		return api.ErrArg
	}
	r.kind, r.vals, r.asked = going, nil, nil
	r.stack = append(r.stack, vals...)
	if len(r.calls) == 0 {
		r.done()
	}
	r.on()
	return api.OK
}

// Fail stops a run that asks the host.
func (r *Run) Fail(t api.Trap) api.Errno {
	if !r.asks() {
		return api.ErrState
	}
	if t <= api.NoTrap {
		return api.ErrArg
	}
	r.stop(t)
	return api.OK
}

// Burn takes fuel from a run that asks the host.
func (r *Run) Burn(n int) api.Errno {
	if !r.asks() {
		return api.ErrState
	}
	if n < 0 || n > r.fuel {
		return api.ErrArg
	}
	r.fuel -= n
	return api.OK
}

// on goes on till the run is at its end, is stopped, or asks the host.
func (r *Run) on() {
next:
	if r.kind == going {
		r.step()
		goto next
	}
}

// burn takes one of the fuel; false: there is none, and the run is stopped.
func (r *Run) burn() bool {
	if r.fuel == 0 {
		r.stop(api.TrapFuel)
		return false
	}
	r.fuel--
	return true
}

// begin begins a call, whose arguments are the last numbers on the stack.
func (r *Run) begin(f *function) {
	if !r.burn() {
		return
	}
	if f.inst == nil {
		r.ask(f)
		return
	}
	if len(r.calls) >= api.MaxDepth {
		r.stop(api.TrapDepth)
		return
	}
	locals := len(r.stack) - len(f.t.P)
	r.stack = append(r.stack, make([]int, f.locals)...)
	r.calls = append(r.calls, call{f: f, locals: locals, base: len(r.stack)})
}

// ask asks the host, with the last numbers on the stack.
func (r *Run) ask(f *function) {
	base := len(r.stack) - len(f.t.P)
	r.kind, r.asked, r.vals = api.RunAsks, f, slices.Clone(r.stack[base:])
	r.stack = r.stack[:base]
}

// end ends the innermost call: its results alone are left of it.
func (r *Run) end() {
	c := r.inner()
	r.keep(len(c.f.t.R), c.locals)
	r.calls = r.calls[:len(r.calls)-1]
	if len(r.calls) == 0 {
		r.done()
	}
}

// done has the run be at its end: what is on the stack is what it leaves.
func (r *Run) done() {
	r.kind, r.vals = api.RunDone, slices.Clone(r.stack)
	r.calls, r.stack = nil, nil
}

// stop stops the run.
func (r *Run) stop(t api.Trap) {
	r.kind, r.trap = api.RunTrap, t
	r.vals, r.asked, r.calls, r.stack = nil, nil, nil, nil
}

// inner is the innermost call.
func (r *Run) inner() *call { return &r.calls[len(r.calls)-1] }

// jump goes to another place of the innermost call.
func (r *Run) jump(j api.Jump) {
	if j.Back && !r.burn() {
		return
	}
	c := r.inner()
	r.keep(j.Keep, c.base+j.Base)
	c.at = j.To
}

// keep keeps the last numbers on the stack, above so many.
func (r *Run) keep(many, base int) {
	copy(r.stack[base:], r.stack[len(r.stack)-many:])
	r.stack = r.stack[:base+many]
}

// push puts a number on the stack.
func (r *Run) push(n int) { r.stack = append(r.stack, n) }

// pop takes the last number from the stack.
func (r *Run) pop() int {
	top := len(r.stack) - 1
	n := r.stack[top]
	r.stack = r.stack[:top]
	return n
}

// pop3 takes the last three numbers, the lowest one first.
func (r *Run) pop3() (a, b, c int) {
	c, b, a = r.pop(), r.pop(), r.pop()
	return a, b, c
}
