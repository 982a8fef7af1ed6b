package value

import (
	"math"
	"slices"
	"testing"

	"scarf/api"
)

func same(t *testing.T, a, b api.Val, want bool) {
	t.Helper()
	if Same(a, b) != want || Same(b, a) != want {
		t.Errorf("%s %s: not %v", short(a), short(b), want)
	}
}

// copied tells a value that shares nothing.
func copied(v api.Val) api.Val {
	out := api.Val{N: v.N, S: slices.Clone(v.S)}
	for _, x := range v.L {
		out.L = append(out.L, copied(x))
	}
	return out
}

// changes makes each change of one field, at each place of a value, and undoes it.
func changes(v *api.Val, look func()) {
	was := *v
	put := func(x api.Val) {
		*v = x
		look()
		*v = was
	}
	for _, n := range []int{1, -1, 1 << 8, 1 << 32, math.MinInt64} {
		put(api.Val{N: v.N + n, S: v.S, L: v.L})
	}
	put(api.Val{N: v.N, S: append(slices.Clone(v.S), 0), L: v.L})
	put(api.Val{N: v.N, S: v.S, L: append(slices.Clone(v.L), api.Val{})})
	if len(v.S) > 0 {
		put(api.Val{N: v.N, S: v.S[1:], L: v.L})
		put(api.Val{N: v.N, S: v.S[:len(v.S)-1], L: v.L})
	}
	for i := range v.S {
		for _, n := range []int{1, -1, 1 << 32} {
			s := slices.Clone(v.S)
			s[i] += n
			put(api.Val{N: v.N, S: s, L: v.L})
		}
	}
	if len(v.L) > 0 {
		put(api.Val{N: v.N, S: v.S, L: v.L[1:]})
		put(api.Val{N: v.N, S: v.S, L: v.L[:len(v.L)-1]})
	}
	for i := range v.L {
		changes(&v.L[i], look)
	}
}

// loose are values of whatever form, none the same as another one.
func loose() []api.Val {
	return []api.Val{
		{}, num(1), num(-1), num(math.MinInt64), num(math.MaxInt64), str("\x00"), str("a"), str("b"), str("ab"), str("ba"), {S: []int{-1}}, {S: []int{0xD800}}, {N: 1, S: []int{'a'}},
		all(api.Val{}), all(num(1)), all(num(1), num(2)), all(num(2), num(1)), all(api.Val{}, api.Val{}), all(all()), all(all(api.Val{})), all(all(), all()), all(all(num(1)), num(2)), all(num(1), all(num(2))), all(num(1), num(2), num(3)),
		sum(1, num(1)), sum(1, str("a")), all(str("a")), all(str("a"), str("b")), all(str("ab"), str("")), all(str(""), str("ab")), {N: 1, S: []int{'a'}, L: []api.Val{num(1)}}, {N: 1, S: []int{'a', 'b'}, L: []api.Val{num(1), str("c"), all(num(3), sum(4, str("d")))}},
		deepVal(num(1), 20), deepVal(num(2), 20), deepVal(num(1), 21),
	}
}

func TestSame(t *testing.T) {
	for i, a := range loose() {
		for k, b := range loose() {
			// Of these some are the same: an empty list's value is the zero one.
			same(t, a, b, i == k || equal(a, b))
			same(t, all(num(1), a), all(num(1), b), i == k || equal(a, b))
		}
		b := copied(a)
		n := 0
		changes(&b, func() {
			n++
			same(t, a, b, false)
			same(t, all(a, a), all(a, b), false)
			same(t, all(a, a), all(b, a), false)
		})
		if n < 7 || !equal(a, b) {
			t.Error(short(a), n)
		}
		same(t, a, b, true)
	}
}

func TestSameEmptyLists(t *testing.T) {
	for _, n := range []int{0, 1, -7} {
		l := []api.Val{{N: n}, {N: n, S: []int{}}, {N: n, L: []api.Val{}}, {N: n, S: []int{1, 2}[:0], L: []api.Val{{N: 3}}[:0]}}
		for _, a := range l {
			for _, b := range l {
				same(t, a, b, true)
				same(t, all(num(2), a), all(num(2), b), true)
				same(t, a, num(n+1), false)
			}
		}
	}
}

// No type is asked for: values may be of any size, and of any depth.
func TestSameGreat(t *testing.T) {
	same(t, deepVal(num(1), 1<<16), deepVal(num(1), 1<<16), true)
	same(t, deepVal(num(1), 1<<16), deepVal(num(2), 1<<16), false)
	same(t, deepVal(num(1), 1<<16), deepVal(num(1), 1<<16-1), false)
	v := all(times(1<<18, num(3))...)
	w := copied(v)
	same(t, v, w, true)
	w.L[1<<17].S = []int{1}
	same(t, v, w, false)
	same(t, chars(1<<20), chars(1<<20), true)
	same(t, chars(1<<20), chars(1<<20-1), false)
}

// Lists that share what is in them are laid out as very many.
func TestSameShared(t *testing.T) {
	grown := func(v api.Val) api.Val {
		for range 60 {
			v = all(v, v)
		}
		return v
	}
	a, b := grown(num(1)), grown(num(1))
	same(t, a, b, true)
	same(t, a, a, true)
	same(t, a, grown(num(2)), false)
	same(t, a, grown(all(num(1))), false)
	c := all(a, all(b, b))
	same(t, c, all(b, all(a, b)), true)
	same(t, c, all(b, all(a, a.L[0])), false)
	// And those that have no end.
	ring := func(n, length int) api.Val {
		l := make([][]api.Val, length)
		for i := range l {
			l[i] = make([]api.Val, 2)
		}
		for i := range l {
			l[i][0] = num(n)
			l[i][1] = all(l[(i+1)%length]...)
		}
		return all(l[0]...)
	}
	same(t, ring(1, 2), ring(1, 3), true)
	same(t, ring(1, 2), ring(2, 3), false)
	x := ring(1, 3)
	x.L[1].L[1].L[0].N = 5
	same(t, ring(1, 2), x, false)
}
