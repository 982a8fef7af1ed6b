package value

import (
	"math"
	"slices"
	"testing"

	"scarf/api"
)

// holders are values with handles, the types of these, and their numbers.
var holders = []struct {
	t     api.Type
	v     api.Val
	types []api.Type
	n     []int
}{
	{own(0), num(5), []api.Type{own(0)}, []int{5}},
	{lent(7), num(1<<32 - 1), []api.Type{lent(7)}, []int{1<<32 - 1}},
	{own(1 << 20), num(0), []api.Type{own(1 << 20)}, []int{0}},
	{u32, num(5), nil, nil},
	{list(own(1)), api.Val{}, nil, nil},
	{list(own(1)), all(num(3), num(3), num(1)), []api.Type{own(1), own(1), own(1)}, []int{3, 3, 1}},
	{tuple(own(2), u32, lent(1), own(0)), all(num(9), num(8), num(7), num(6)), []api.Type{own(2), lent(1), own(0)}, []int{9, 7, 6}},
	{record(u8, own(2), list(lent(1)), own(0)), all(num(9), num(8), all(num(7), num(6)), num(5)), []api.Type{own(2), lent(1), lent(1), own(0)}, []int{8, 7, 6, 5}},
	{option(own(1)), num(0), nil, nil},
	{option(own(1)), sum(1, num(0)), []api.Type{own(1)}, []int{0}},
	{result(own(1), lent(2)), sum(0, num(4)), []api.Type{own(1)}, []int{4}},
	{result(own(1), lent(2)), sum(1, num(4)), []api.Type{lent(2)}, []int{4}},
	{result(nothing, lent(2)), num(0), nil, nil},
	{variant(nothing, own(3), u32, tuple(lent(1), lent(2))), num(0), nil, nil},
	{variant(nothing, own(3), u32, tuple(lent(1), lent(2))), sum(1, num(1)), []api.Type{own(3)}, []int{1}},
	{variant(nothing, own(3), u32, tuple(lent(1), lent(2))), sum(2, num(1)), nil, nil},
	{variant(nothing, own(3), u32, tuple(lent(1), lent(2))), sum(3, all(num(8), num(9))), []api.Type{lent(1), lent(2)}, []int{8, 9}},
	{list(option(tuple(own(1), list(lent(2))))), all(num(0), sum(1, all(num(1), all(num(2), num(3)))), num(0), sum(1, all(num(4), all())), sum(1, all(num(5), all(num(6))))), []api.Type{own(1), lent(2), lent(2), own(1), own(1), lent(2)}, []int{1, 2, 3, 4, 5, 6}},
	{tuple(enum(3), flags(3), words, char, own(4)), all(num(2), num(7), str("#1"), num('#'), num(3)), []api.Type{own(4)}, []int{3}},
	{deep(own(6), 15), deepVal(num(2), 15), []api.Type{own(6)}, []int{2}},
	{tuple(times(64, own(1))...), all(times(64, num(9))...), times(64, own(1)), times(64, 9)},
	{list(lent(0)), all(times(1000, num(9))...), times(1000, lent(0)), times(1000, 9)},
}

func TestHandles(t *testing.T) {
	for _, x := range holders {
		types, n := Handles(x.t, x.v)
		if !sameTypes(types, x.types) || !slices.Equal(n, x.n) {
			t.Errorf("%s %s: %v %v", short(x.t), short(x.v), types, n)
		}
		yes(t, x.t, x.v)
	}
}

// with looks whether a value with other numbers is told, or refused.
func with(t *testing.T, x api.Type, v api.Val, want api.Errno, n ...int) {
	t.Helper()
	w, e := With(x, v, n...)
	if e != want || e != api.OK && !isZero(w) {
		t.Errorf("%s %s %s: %d %s", short(x), short(v), short(n), e, short(w))
	}
	if e != api.OK {
		return
	}
	// It is a value of the type again, and has just these (15.4).
	yes(t, x, w)
	if types, got := Handles(x, w); !slices.Equal(got, n) || !sameTypes(types, first(Handles(x, v))) {
		t.Errorf("%s %s %s: %s %s", short(x), short(v), short(n), short(w), short(got))
	}
	// All else is as it was.
	if _, was := Handles(x, v); Same(v, w) != slices.Equal(was, n) {
		t.Errorf("%s %s %s: %s", short(x), short(v), short(n), short(w))
	}
	if back, e := With(x, w, second(Handles(x, v))...); e != api.OK || !equal(back, v) {
		t.Errorf("%s %s %s: %d %s", short(x), short(v), short(n), e, short(back))
	}
}

func first[A, B any](a A, b B) A  { return a }
func second[A, B any](a A, b B) B { return b }

func TestWith(t *testing.T) {
	for _, x := range holders {
		n := len(x.n)
		var rising []int
		for i := range n {
			rising = append(rising, 100+i)
		}
		with(t, x.t, x.v, api.OK, x.n...)
		with(t, x.t, x.v, api.OK, rising...)
		with(t, x.t, x.v, api.OK, times(n, 0)...)
		with(t, x.t, x.v, api.OK, times(n, 1<<32-1)...)
		with(t, x.t, x.v, api.ErrArg, times(n+1, 1)...)
		with(t, x.t, x.v, api.ErrArg, times(n+1, -1)...)
		with(t, x.t, x.v, api.ErrArg, times(n+5000, 1)...)
		if n == 0 {
			continue
		}
		with(t, x.t, x.v, api.ErrArg)
		for i := range n {
			if i > 5 && i < n-5 {
				continue
			}
			with(t, x.t, x.v, api.ErrArg, rising[i+1:]...)
			for _, bad := range []int{-1, 1 << 32, 1<<32 + 1, math.MinInt64, math.MaxInt64, -1 << 32} {
				l := slices.Clone(rising)
				l[i] = bad
				with(t, x.t, x.v, api.ErrArg, l...)
			}
		}
	}
}

// By their values: each number comes where its handle stood, and nowhere else.
func TestWithPlaces(t *testing.T) {
	x := tuple(u32, own(2), list(lent(1)), option(own(0)), result(u32, lent(3)), result(u32, lent(3)))
	v := all(num(1), num(1), all(num(1), num(1)), sum(1, num(1)), sum(0, num(1)), sum(1, num(1)))
	w, e := With(x, v, 11, 12, 13, 14, 15)
	want := all(num(1), num(11), all(num(12), num(13)), sum(1, num(14)), sum(0, num(1)), sum(1, num(15)))
	if e != api.OK || !equal(w, want) {
		t.Error(e, w)
	}
	if w, e := With(lent(3), num(4), 5); e != api.OK || !equal(w, num(5)) {
		t.Error(e, w)
	}
	if w, e := With(words, str("ab")); e != api.OK || !equal(w, str("ab")) {
		t.Error(e, w)
	}
}

// Check's error comes ahead of that of numbers.
func TestWithErrors(t *testing.T) {
	for _, n := range [][]int{nil, {1}, {-1}, {1 << 32}, {1, 2}} {
		with(t, list(own(-1)), all(num(1)), api.ErrArg, n...)
		with(t, list(own(1)), all(num(-1)), api.ErrType, n...)
		with(t, list(own(1)), all(num(1), str("a")), api.ErrType, n...)
		with(t, own(1), num(1<<32), api.ErrType, n...)
		with(t, u8, num(256), api.ErrType, n...)
	}
	with(t, own(1), num(1), api.ErrArg, 1<<32)
	with(t, u8, num(1), api.ErrArg, 1)
}
