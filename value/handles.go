package value

import (
	"slices"

	"scarf/api"
)

// Handles tells the handles of a value, one behind the other: their types, and their numbers.
func Handles(t api.Type, v api.Val) ([]api.Type, []int) {
	if Check(t, v) != api.OK {
		return nil, nil
	}
	return handles(t, v)
}

// With tells a value that has other numbers in the place of its handles, one behind the other.
func With(t api.Type, v api.Val, n ...int) (api.Val, api.Errno) {
	if e := Check(t, v); e != api.OK {
		return api.Val{}, e
	}
	noHandle := func(x int) bool { return !bits(x, 32) }
	if _, there := handles(t, v); len(n) != len(there) || slices.ContainsFunc(n, noHandle) {
		return api.Val{}, api.ErrArg
	}
	out := clone(v)
	each(plain(t), &out, func(_ api.Type, h *api.Val) {
		h.N = n[0]
		n = n[1:]
	})
	return out, api.OK
}

// handles tells the handles of a value that is one of the type.
func handles(t api.Type, v api.Val) ([]api.Type, []int) {
	var types []api.Type
	var numbers []int
	each(plain(t), &v, func(t api.Type, h *api.Val) {
		types = append(types, api.Type{Kind: t.Kind, R: t.R})
		numbers = append(numbers, h.N)
	})
	return types, numbers
}

// each tells each handle within a value of a plain type, in the order in which they stand.
func each(t api.Type, v *api.Val, tell func(t api.Type, h *api.Val)) {
	if t.Kind == api.TOwn || t.Kind == api.TBorrow {
		tell(t, v)
	}
	for i := range v.L {
		each(within(t, *v, i), &v.L[i], tell)
	}
}

// clone tells a value that shares no list with what was given.
func clone(v api.Val) api.Val {
	v.S = slices.Clone(v.S)
	v.L = slices.Clone(v.L)
	for i, x := range v.L {
		v.L[i] = clone(x)
	}
	return v
}
