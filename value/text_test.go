package value

import (
	"math"
	"strings"
	"testing"

	"scarf/api"
)

func told(t *testing.T, x api.Type, v api.Val, want string) {
	t.Helper()
	if s, e := Text(x, v); s != want || e != api.OK {
		t.Errorf("%s %s: %d %s, not %s", short(x), short(v), e, s, want)
	}
}

func TestText(t *testing.T) {
	point := api.Type{Kind: api.TRecord, Names: []string{"x", "my-y"}, L: []api.Type{s8, option(words)}}
	shape := api.Type{Kind: api.TVariant, Names: []string{"empty", "DOT", "two-d"}, L: []api.Type{nothing, u8, point}}
	colour := api.Type{Kind: api.TEnum, Names: []string{"red", "GREEN-B2", "b"}}
	rights := api.Type{Kind: api.TFlags, Names: []string{"read", "write", "x-y1"}}
	for _, x := range []struct {
		t    api.Type
		v    api.Val
		want string
	}{
		{boolean, num(0), "false"}, {boolean, num(1), "true"},
		{s8, num(0), "0"}, {s8, num(-128), "-128"}, {s8, num(127), "127"}, {s8, num(-1), "-1"},
		{u8, num(0), "0"}, {u8, num(255), "255"}, {s16, num(-32768), "-32768"}, {u16, num(65535), "65535"},
		{s32, num(-2147483648), "-2147483648"}, {u32, num(4294967295), "4294967295"},
		{s64, num(-1), "-1"}, {s64, num(math.MinInt64), "-9223372036854775808"}, {s64, num(math.MaxInt64), "9223372036854775807"},
		{u64, num(-1), "18446744073709551615"}, {u64, num(math.MinInt64), "9223372036854775808"}, {u64, num(math.MaxInt64), "9223372036854775807"}, {u64, num(0), "0"}, {u64, num(10), "10"},
		{char, num(0), "U+0"}, {char, num('a'), "U+61"}, {char, num(0xAF), "U+AF"}, {char, num(0xD7FF), "U+D7FF"}, {char, num(0xE000), "U+E000"}, {char, num(0x1F600), "U+1F600"}, {char, num(0x10FFFF), "U+10FFFF"},
		{words, str(""), `""`}, {words, str("hello, world"), `"hello, world"`}, {words, str(" ~!#'/[]{}|"), `" ~!#'/[]{}|"`},
		{words, str(`"`), `"\u{22}"`}, {words, str(`\`), `"\u{5c}"`}, {words, str(`a"b\c`), `"a\u{22}b\u{5c}c"`}, {words, str("\\u{61}"), `"\u{5c}u{61}"`},
		{words, str("\x00\n\t\x1f\x7f\u0080"), `"\u{0}\u{a}\u{9}\u{1f}\u{7f}\u{80}"`}, {words, str("aé\u07ff\uffff\U0010FFFF\U0001F600"), `"a\u{e9}\u{7ff}\u{ffff}\u{10ffff}\u{1f600}"`},
		{list(u8), api.Val{}, "[]"}, {list(u8), all(num(1)), "[1]"}, {list(u8), all(num(1), num(2), num(3)), "[1, 2, 3]"}, {list(list(words)), all(all(), all(str("a"), str(","))), `[[], ["a", ","]]`},
		{tuple(u8), all(num(1)), "(1)"}, {tuple(boolean, u64), all(num(1), num(-1)), "(true, 18446744073709551615)"}, {tuple(tuple(u8, u8), list(u8)), all(all(num(1), num(2)), all()), "((1, 2), [])"},
		{record(u8), all(num(1)), "{n0: 1}"}, {point, all(num(-1), num(0)), "{x: -1, my-y: none}"}, {point, all(num(2), sum(1, str("a"))), `{x: 2, my-y: some("a")}`}, {record(point, words), all(all(num(0), num(0)), str("")), `{n0: {x: 0, my-y: none}, n1: ""}`},
		{rights, num(0), "{}"}, {rights, num(1), "{read}"}, {rights, num(2), "{write}"}, {rights, num(4), "{x-y1}"}, {rights, num(5), "{read, x-y1}"}, {rights, num(7), "{read, write, x-y1}"}, {flags(32), num(1<<31 + 1), "{n0, n31}"},
		{shape, num(0), "empty"}, {shape, sum(1, num(7)), "DOT(7)"}, {shape, sum(2, all(num(1), num(0))), "two-d({x: 1, my-y: none})"},
		{colour, num(0), "red"}, {colour, num(1), "GREEN-B2"}, {colour, num(2), "b"},
		{option(u8), num(0), "none"}, {option(u8), sum(1, num(0)), "some(0)"}, {option(option(u8)), sum(1, num(0)), "some(none)"}, {option(tuple(u8, u8)), sum(1, all(num(1), num(2))), "some((1, 2))"},
		{result(nothing, nothing), num(0), "ok"}, {result(nothing, nothing), num(1), "error"}, {result(u8, words), sum(0, num(3)), "ok(3)"}, {result(u8, words), sum(1, str("no")), `error("no")`}, {result(nothing, words), num(0), "ok"}, {result(u8, nothing), num(1), "error"},
		{own(0), num(0), "#0"}, {own(9), num(1<<32 - 1), "#4294967295"}, {lent(3), num(12), "#12"}, {list(lent(3)), all(num(1), num(2)), "[#1, #2]"},
		{option(words), sum(1, api.Val{S: []int{0x61, 0xE9}}), `some("a\u{e9}")`},
		{api.Type{Kind: api.TRecord, Names: []string{"record", "none"}, L: []api.Type{boolean, enum(2)}}, all(num(1), num(1)), "{record: true, none: n1}"},
	} {
		told(t, x.t, x.v, x.want)
		told(t, tuple(x.t, list(x.t)), all(x.v, all(x.v, x.v)), "("+x.want+", ["+x.want+", "+x.want+"])")
		told(t, option(x.t), sum(1, x.v), "some("+x.want+")")
		told(t, result(u8, record(x.t)), sum(1, all(x.v)), "error({n0: "+x.want+"})")
	}
}

// Each character that a text may have, and only that, stands for itself from 32 to 126.
func TestCharacters(t *testing.T) {
	const digits, great = "0123456789abcdef", "0123456789ABCDEF"
	base16 := func(n int, digits string) string {
		s := ""
		for ; n > 0 || s == ""; n /= 16 {
			s = digits[n%16:n%16+1] + s
		}
		return s
	}
	for n := range 0x110000 {
		if n >= 0xD800 && n < 0xE000 || n > 0x3000 && n%97 != 0 && n < 0x10FF00 {
			continue
		}
		want := `\u{` + base16(n, digits) + "}"
		if strings.ContainsRune(` !#$%&'()*+,-./0123456789:;<=>?@ABCDEFGHIJKLMNOPQRSTUVWXYZ[]^_abcdefghijklmnopqrstuvwxyz{|}~`+"`", rune(n)) {
			want = string(rune(n))
		}
		told(t, words, api.Val{S: []int{n}}, `"`+want+`"`)
		told(t, words, api.Val{S: []int{'-', n, n}}, `"-`+want+want+`"`)
		told(t, char, num(n), "U+"+base16(n, great))
	}
}

func TestGreatTexts(t *testing.T) {
	told(t, words, chars(1000), `"`+strings.Repeat("a", 1000)+`"`)
	told(t, list(u8), all(times(1000, num(9))...), "["+strings.Repeat("9, ", 999)+"9]")
	told(t, deep(u8, 15), deepVal(num(7), 15), strings.Repeat("[", 15)+"7"+strings.Repeat("]", 15))
	told(t, tuple(times(64, u8)...), all(times(64, num(9))...), "("+strings.Repeat("9, ", 63)+"9)")
	// Of names of 100 bytes.
	x := flags(32)
	for i := range x.Names {
		x.Names[i] += strings.Repeat("z", 100-len(x.Names[i]))
	}
	set := "{" + strings.Join(x.Names, ", ") + "}"
	told(t, list(x), all(times(1000, num(1<<32-1))...), "["+strings.Repeat(set+", ", 999)+set+"]")
}
