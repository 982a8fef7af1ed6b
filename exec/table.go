package exec

import "scarf/api"

// table has places, each with a function's address and one more, or 0.
type table struct {
	places []int
	max    int
}

// part is so many places from one on; false: they are not all within.
func (t *table) part(at, n int) ([]int, bool) {
	if at < 0 || n < 0 || n > len(t.places)-at {
		return nil, false
	}
	return t.places[at : at+n], true
}

// put puts what is given from a place on.
func (t *table) put(at int, l []int) api.Trap {
	p, ok := t.part(at, len(l))
	if !ok {
		return api.TrapTable
	}
	copy(p, l)
	return api.NoTrap
}

// get tells what is in a place.
func (t *table) get(at int) (int, api.Trap) {
	p, ok := t.part(at, 1)
	if !ok {
		return 0, api.TrapTable
	}
	return p[0], api.NoTrap
}

// fill puts one thing into places.
func (t *table) fill(at, f, n int) api.Trap {
	p, ok := t.part(at, n)
	if !ok {
		return api.TrapTable
	}
	for i := range p {
		p[i] = f
	}
	return api.NoTrap
}

// grow makes places more, all with one thing, and tells how many there were; -1: there may not be so many.
func (t *table) grow(f, n int) int {
	most := t.max
	if most == noMax {
		most = api.MaxTable
	}
	many := len(t.places)
	if n < 0 || n > most-many {
		return -1
	}
	for range n {
		t.places = append(t.places, f)
	}
	return many
}

// copyTable copies places of a table to one, which may be the same.
func copyTable(to *table, at int, from *table, place, n int) api.Trap {
	l, ok := from.part(place, n)
	if !ok {
		return api.TrapTable
	}
	return to.put(at, l)
}
