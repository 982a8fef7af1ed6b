package handles

import (
	"cmp"
	"maps"
	"slices"

	"scarf/api"
)

// Calls tells of which instances calls are under way, the outermost first.
func (t *Tables) Calls() []int {
	if t == nil {
		return nil
	}
	var l []int
	for _, c := range t.calls {
		l = append(l, c.inst)
	}
	return l
}

// Handles tells an instance's handles, by their indices.
func (t *Tables) Handles(i int) []api.Handle {
	if !t.has(i) {
		return nil
	}
	rising := func(a, b api.Handle) int { return cmp.Compare(a.H, b.H) }
	return slices.SortedFunc(maps.Values(t.tables[i]), rising)
}

// Clone tells other tables that are alike.
func (t *Tables) Clone() *Tables {
	if t == nil {
		return nil
	}
	c := &Tables{makers: slices.Clone(t.makers)}
	for _, table := range t.tables {
		c.tables = append(c.tables, maps.Clone(table))
	}
	for _, x := range t.calls {
		c.calls = append(c.calls, call{x.inst, maps.Clone(x.lent)})
	}
	return c
}
