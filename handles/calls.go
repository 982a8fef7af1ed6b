package handles

import (
	"slices"

	"scarf/api"
)

// call is one that is under way: of which instance, and how often each handle is lent for it.
type call struct {
	inst int
	lent map[place]int
}

// Enter begins a call of an instance.
func (t *Tables) Enter(i int) api.Trap {
	of := func(c call) bool { return c.inst == i }
	if !t.has(i) || slices.ContainsFunc(t.calls, of) {
		return api.TrapEnter
	}
	// There are fewer instances than calls may be, so that this is a bound that is not met.
	if len(t.calls) >= api.MaxCalls {
		return api.TrapDepth
	}
	t.calls = append(t.calls, call{i, map[place]int{}})
	return api.NoTrap
}

// Leave ends the innermost call.
func (t *Tables) Leave() api.Trap {
	if t == nil || len(t.calls) == 0 {
		return api.TrapLeave
	}
	if t.borrowed(len(t.calls)) {
		return api.TrapBorrow
	}
	last := len(t.calls) - 1
	t.back(t.calls[last].lent)
	t.calls = t.calls[:last]
	return api.NoTrap
}

// borrowed tells whether there is a borrowed handle of a call, told by how deep it is.
func (t *Tables) borrowed(depth int) bool {
	for _, table := range t.tables {
		for _, x := range table {
			if x.Call == depth {
				return true
			}
		}
	}
	return false
}

// back takes handles back that were lent, each so often. They are there: none goes that is lent.
func (t *Tables) back(lent map[place]int) {
	for p, n := range lent {
		x := t.tables[p.i][p.h]
		x.Lends -= n
		t.tables[p.i][p.h] = x
	}
}
