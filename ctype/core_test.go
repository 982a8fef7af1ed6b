package ctype

import (
	"slices"
	"strings"
	"testing"

	"scarf/api"
)

// letters tells core types by a letter each: i and l.
func letters(l []int) string {
	s := ""
	for _, c := range l {
		switch c {
		case api.I32:
			s += "i"
		case api.I64:
			s += "l"
		default:
			s += "?"
		}
	}
	return s
}

func TestFlat(t *testing.T) {
	for _, x := range []struct {
		t    api.Type
		want string
	}{
		{boolean, "i"}, {s8, "i"}, {u8, "i"}, {s16, "i"}, {u16, "i"}, {s32, "i"}, {u32, "i"}, {char, "i"}, {s64, "l"}, {u64, "l"}, {text, "ii"}, {list(u64), "ii"}, {list(tuple(u64, u64)), "ii"},
		{by(api.TFlags, some(1)), "i"}, {by(api.TFlags, some(32)), "i"}, {by(api.TEnum, some(1)), "i"}, {by(api.TEnum, some(64)), "i"}, {own, "i"}, {handle(api.TBorrow, 3), "i"},
		{record(u8, u32, u16), "iii"}, {tuple(u8, text, u64), "iiil"}, {tuple(u64), "l"}, {record(tuple(u64, u8), u8, record(text)), "liiii"}, {tuple(option(u64), u8), "ili"},
		{option(u64), "il"}, {option(u8), "ii"}, {option(text), "iii"}, {option(option(u64)), "iil"}, {option(tuple(u64, u8, u64)), "ilil"},
		{result(nothing, nothing), "i"}, {result(u8, nothing), "ii"}, {result(nothing, u64), "il"}, {result(u8, u64), "il"}, {result(u64, u64), "il"}, {result(u8, u16), "ii"}, {result(text, u64), "ili"}, {result(u64, text), "ili"},
		{variant(u32, u64), "il"}, {variant(text, u64), "ili"}, {variant(nothing), "i"}, {variant(times(64, nothing)...), "i"}, {variant(nothing, u64, nothing), "il"}, {variant(u8, text, nothing, tuple(u8, u8, u64)), "iiil"},
		{variant(u64, tuple(u64, u64), tuple(u64, u8)), "ill"}, {variant(tuple(u8, u64), tuple(u64, u8)), "ill"}, {variant(u64, u64, u8), "il"}, {variant(u8, u64, u8), "il"}, {variant(tuple(u8, u64, text), u64, text), "illii"},
		{variant(option(u64), text), "iil"}, {variant(option(u64), tuple(u64, u64)), "ill"}, {variant(variant(u8, u64), u8), "iil"}, {tuple(variant(u8, u64), variant(u8, u8)), "ilii"}, {result(result(u64, nothing), own), "iil"},
	} {
		if got := letters(Flat(x.t)); got != x.want {
			t.Errorf("%s: %s, not %s", short(x.t), got, x.want)
		}
		if got := letters(Args(sig(nothing, x.t, u64, x.t))); got != x.want+"l"+x.want {
			t.Errorf("%s: %s", short(x.t), got)
		}
	}
	for n := range 64 {
		l := times(n+1, text)
		if got := letters(Flat(tuple(l...))); got != strings.Repeat("ii", n+1) {
			t.Error(n, got)
		}
		if got := letters(Args(sig(text, l...))); got != strings.Repeat("ii", n+1) {
			t.Error(n, got)
		}
	}
	if len(Args(sig(text))) != 0 || len(Args(api.Sig{})) != 0 {
		t.Error("arguments of none")
	}
}

func TestCore(t *testing.T) {
	for _, x := range []struct {
		s            api.Sig
		lift, lifted string // core arguments, and results, of one that is lifted
		lower, given string // of one that is called
	}{
		{sig(nothing), "", "", "", ""},
		{sig(u8), "", "i", "", "i"}, {sig(u64), "", "l", "", "l"}, {sig(own), "", "i", "", "i"}, {sig(by(api.TEnum, some(9))), "", "i", "", "i"}, {sig(tuple(u64)), "", "l", "", "l"}, {sig(result(nothing, nothing)), "", "i", "", "i"},
		{sig(text), "", "i", "i", ""}, {sig(tuple(u8, u8)), "", "i", "i", ""}, {sig(option(u64)), "", "i", "i", ""}, {sig(list(u64)), "", "i", "i", ""}, {sig(tuple(times(64, u64)...)), "", "i", "i", ""},
		{sig(nothing, u8, u64, text), "ilii", "", "ilii", ""}, {sig(u64, u8, u64, text), "ilii", "l", "ilii", "l"}, {sig(text, u8, u64, text), "ilii", "i", "iliii", ""},
		{sig(nothing, times(16, u64)...), strings.Repeat("l", 16), "", strings.Repeat("l", 16), ""}, {sig(nothing, times(17, u64)...), "i", "", "i", ""}, {sig(nothing, times(8, text)...), strings.Repeat("i", 16), "", strings.Repeat("i", 16), ""},
		{sig(u8, append(times(8, text), u8)...), "i", "i", "i", "i"}, {sig(u64, times(64, text)...), "i", "l", "i", "l"},
		{sig(text, times(16, u64)...), strings.Repeat("l", 16), "i", strings.Repeat("l", 16) + "i", ""}, {sig(text, times(15, u64)...), strings.Repeat("l", 15), "i", strings.Repeat("l", 15) + "i", ""}, {sig(text, times(17, u64)...), "i", "i", "ii", ""},
		{sig(option(u8), tuple(times(16, u8)...)), strings.Repeat("i", 16), "i", strings.Repeat("i", 17), ""}, {sig(option(u8), tuple(times(17, u8)...)), "i", "i", "ii", ""},
	} {
		f, e := Core(x.s, false)
		if e != api.OK || letters(f.P) != x.lift || letters(f.R) != x.lifted {
			t.Errorf("%s: %d %s %s", short(x.s), e, letters(f.P), letters(f.R))
		}
		f, e = Core(x.s, true)
		if e != api.OK || letters(f.P) != x.lower || letters(f.R) != x.given {
			t.Errorf("%s, lowered: %d %s %s", short(x.s), e, letters(f.P), letters(f.R))
		}
	}
	// The name does not matter.
	for _, name := range []string{"", "f", "a:b/i#[method]r.f", "\xff"} {
		s := sig(text, u8)
		s.Name = name
		if f, e := Core(s, true); e != api.OK || !slices.Equal(f.P, []int{api.I32, api.I32}) || len(f.R) != 0 {
			t.Error(name, f, e)
		}
	}
}
