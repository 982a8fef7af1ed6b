package utf

import (
	"math"
	"slices"
	"strings"
	"testing"
	"unicode/utf16"
	"unicode/utf8"

	"scarf/api"
)

// forms are the forms that there are.
var forms = []int{api.FormUTF8, api.FormUTF16, api.FormLatin1}

// noForms are numbers of no form, and of no encoding.
var noForms = []int{-1, 3, 4, 255, 256, 1 << 8, 1 << 32, 1<<32 + 1, math.MaxInt, math.MinInt, math.MinInt + 1}

// noCharacters are numbers that are no characters; some would be, were they cut to fewer bits.
var noCharacters = []int{
	-1, -0x80, -0x41, -0x10000, math.MinInt, math.MinInt + 0x41, math.MaxInt, 0xD800, 0xD801, 0xDBFF, 0xDC00, 0xDFFE, 0xDFFF,
	0x110000, 0x110001, 0x1FFFFF, 0x200000, 1 << 31, 1<<32 - 1, 1 << 32, 1<<32 + 0x41, 1<<32 + 0xD7FF, 1<<40 + 0xE9,
}

// edges are the first and the last character of each count of bytes and of units, and their neighbours.
var edges = []int{
	0, 1, 0x41, 0x7E, 0x7F, 0x80, 0x81, 0xE9, 0xFE, 0xFF, 0x100, 0x101, 0x7FE, 0x7FF, 0x800, 0x801, 0xFFF, 0x1000, 0xD7FE, 0xD7FF, 0xE000, 0xE001,
	0xFEFF, 0xFFFD, 0xFFFE, 0xFFFF, 0x10000, 0x10001, 0x103FF, 0x10400, 0x1F600, 0x3FFFF, 0x40000, 0xFFFFF, 0x100000, 0x10FFFE, 0x10FFFF,
}

// units are the edges among the units of FormUTF16.
var units = []int{0, 0x41, 0xD8, 0xDC, 0xFF, 0x100, 0xD7FF, 0xD800, 0xD801, 0xDBFE, 0xDBFF, 0xDC00, 0xDC01, 0xDFFE, 0xDFFF, 0xE000, 0xFEFF, 0xFFFF}

// ofUnits lays units as bytes.
func ofUnits(l ...int) string {
	var b []byte
	for _, u := range l {
		b = append(b, byte(u%256), byte(u/256))
	}
	return string(b)
}

// written is what the chapter says of one character in a form, as the library has it.
func written(form, p int) string {
	switch form {
	case api.FormUTF8:
		return string(utf8.AppendRune(nil, rune(p)))
	case api.FormUTF16:
		var b []byte
		for _, u := range utf16.AppendRune(nil, rune(p)) {
			b = append(b, byte(u), byte(u>>8))
		}
		return string(b)
	}
	return string([]byte{byte(p)})
}

// formHas tells whether a form has a character.
func formHas(form, p int) bool { return form != api.FormLatin1 || p < 256 }

// wantUTF8 is what bytes are, as the library has it.
func wantUTF8(s string) ([]int, bool) {
	if !utf8.ValidString(s) {
		return nil, false
	}
	var l []int
	for _, p := range s {
		l = append(l, int(p))
	}
	return l, true
}

// asRead asks what Read says.
func asRead(t *testing.T, form int, s string, want []int, ok bool) {
	t.Helper()
	l, yes := Read(form, s)
	if yes != ok || !slices.Equal(l, want) {
		t.Fatalf("Read(%d, %x): %x %v, want %x %v", form, s, l, yes, want, ok)
	}
}

// asWritten asks what Write says.
func asWritten(t *testing.T, form int, l []int, want string, ok bool) {
	t.Helper()
	s, yes := Write(form, l...)
	if yes != ok || s != want {
		t.Fatalf("Write(%d, %x): %x %v, want %x %v", form, l, s, yes, want, ok)
	}
}

// 2.1: Scalar.
func TestScalar(t *testing.T) {
	for _, p := range edges {
		if !Scalar(p) {
			t.Errorf("Scalar(%x): false", p)
		}
	}
	for _, p := range noCharacters {
		if Scalar(p) {
			t.Errorf("Scalar(%x): true", p)
		}
	}
	for p := -300; p < 0x120000; p++ {
		if Scalar(p) != utf8.ValidRune(rune(p)) {
			t.Fatalf("Scalar(%x): %v", p, Scalar(p))
		}
	}
}

// 2.1: Write.
func TestWrite(t *testing.T) {
	for _, x := range []struct {
		form int
		l    []int
		s    string
		ok   bool
	}{
		{api.FormUTF8, []int{0xE9, 0x1F600}, "\xc3\xa9\xf0\x9f\x98\x80", true},
		{api.FormUTF16, []int{0x1F600}, "\x3d\xd8\x00\xde", true},
		{api.FormUTF8, []int{0}, "\x00", true},
		{api.FormUTF8, []int{0x7F, 0x80}, "\x7f\xc2\x80", true},
		{api.FormUTF8, []int{0x7FF, 0x800}, "\xdf\xbf\xe0\xa0\x80", true},
		{api.FormUTF8, []int{0xD7FF, 0xE000}, "\xed\x9f\xbf\xee\x80\x80", true},
		{api.FormUTF8, []int{0xFFFF, 0x10000}, "\xef\xbf\xbf\xf0\x90\x80\x80", true},
		{api.FormUTF8, []int{0x10FFFF}, "\xf4\x8f\xbf\xbf", true},
		{api.FormUTF16, []int{0, 0x41, 0xE9}, "\x00\x00\x41\x00\xe9\x00", true},
		{api.FormUTF16, []int{0xD7FF, 0xE000}, "\xff\xd7\x00\xe0", true},
		{api.FormUTF16, []int{0xFFFF, 0x10000}, "\xff\xff\x00\xd8\x00\xdc", true},
		{api.FormUTF16, []int{0x10FFFF, 0x103FF, 0x10400}, "\xff\xdb\xff\xdf\x00\xd8\xff\xdf\x01\xd8\x00\xdc", true},
		{api.FormLatin1, []int{0, 0x41, 0x7F, 0x80, 0xFF}, "\x00\x41\x7f\x80\xff", true},
		// No characters at all.
		{api.FormUTF8, nil, "", true},
		{api.FormUTF16, nil, "", true},
		{api.FormLatin1, []int{}, "", true},
		// Characters that have none.
		{api.FormLatin1, []int{0x100}, "", false},
		{api.FormLatin1, []int{0x41, 0xFF, 0x100}, "", false},
		{api.FormLatin1, []int{0x141}, "", false},
		{api.FormLatin1, []int{0x10FFFF}, "", false},
		// No characters.
		{api.FormUTF8, []int{0xD800}, "", false},
		{api.FormUTF8, []int{0xDFFF, 0x41}, "", false},
		{api.FormUTF8, []int{0x41, 0x110000}, "", false},
		{api.FormUTF8, []int{0x41, -1, 0x41}, "", false},
		{api.FormUTF16, []int{0xD800}, "", false},
		{api.FormUTF16, []int{0xD83D, 0xDE00}, "", false},
		{api.FormUTF16, []int{0x110000}, "", false},
		{api.FormLatin1, []int{-1}, "", false},
	} {
		given := slices.Clone(x.l)
		asWritten(t, x.form, x.l, x.s, x.ok)
		if !slices.Equal(given, x.l) {
			t.Errorf("Write changed %x to %x", given, x.l)
		}
	}
}

// 2.1: Write, of each character by itself and between others.
func TestWriteAll(t *testing.T) {
	for p := range 0x110000 {
		if !utf8.ValidRune(rune(p)) {
			continue
		}
		for _, form := range forms {
			if formHas(form, p) {
				asWritten(t, form, []int{p}, written(form, p), true)
			} else {
				asWritten(t, form, []int{p}, "", false)
			}
		}
	}
	for _, p := range edges {
		for _, form := range forms {
			if formHas(form, p) {
				asWritten(t, form, []int{0x7A, p, 0xFF}, written(form, 0x7A)+written(form, p)+written(form, 0xFF), true)
			}
		}
	}
}

// 2.1: Write, of what is no character, wherever it stands.
func TestWriteNone(t *testing.T) {
	l := slices.Clone(noCharacters)
	for p := 0xD800; p < 0xE000; p++ {
		l = append(l, p)
	}
	for _, form := range forms {
		for _, p := range l {
			asWritten(t, form, []int{p}, "", false)
			asWritten(t, form, []int{p, 0x41}, "", false)
			asWritten(t, form, []int{0x41, p}, "", false)
			asWritten(t, form, []int{0x41, p, 0xE9}, "", false)
		}
	}
}

// 2.1: Read.
func TestRead(t *testing.T) {
	for _, x := range []struct {
		form int
		s    string
		l    []int
		ok   bool
	}{
		{api.FormUTF8, "\xc3\xa9\xf0\x9f\x98\x80", []int{0xE9, 0x1F600}, true},
		{api.FormUTF8, "\x00\x7f\xc2\x80\xdf\xbf", []int{0, 0x7F, 0x80, 0x7FF}, true},
		{api.FormUTF8, "\xe0\xa0\x80\xef\xbf\xbf", []int{0x800, 0xFFFF}, true},
		{api.FormUTF8, "\xed\x9f\xbf\xee\x80\x80", []int{0xD7FF, 0xE000}, true},
		{api.FormUTF8, "\xf0\x90\x80\x80\xf4\x8f\xbf\xbf", []int{0x10000, 0x10FFFF}, true},
		{api.FormUTF16, "\x3d\xd8\x00\xde", []int{0x1F600}, true},
		{api.FormUTF16, "\x00\x00\xff\xd7\x00\xe0\xff\xff", []int{0, 0xD7FF, 0xE000, 0xFFFF}, true},
		{api.FormUTF16, "\x00\xd8\x00\xdc\xff\xdb\xff\xdf", []int{0x10000, 0x10FFFF}, true},
		{api.FormLatin1, "\x00\x41\x7f\x80\xc3\xa9\xff", []int{0, 0x41, 0x7F, 0x80, 0xC3, 0xA9, 0xFF}, true},
		// No characters at all.
		{api.FormUTF8, "", nil, true},
		{api.FormUTF16, "", nil, true},
		{api.FormLatin1, "", nil, true},
		// Longer than they need be.
		{api.FormUTF8, "\xc0\x80", nil, false},
		{api.FormUTF8, "\xc1\xbf", nil, false},
		{api.FormUTF8, "\xe0\x80\x80", nil, false},
		{api.FormUTF8, "\xe0\x9f\xbf", nil, false},
		{api.FormUTF8, "\xf0\x80\x80\x80", nil, false},
		{api.FormUTF8, "\xf0\x8f\xbf\xbf", nil, false},
		// No characters.
		{api.FormUTF8, "\xed\xa0\x80", nil, false},
		{api.FormUTF8, "\xed\xbf\xbf", nil, false},
		{api.FormUTF8, "\xed\xa0\xbd\xed\xb8\x80", nil, false},
		{api.FormUTF8, "\xf4\x90\x80\x80", nil, false},
		{api.FormUTF8, "\xf7\xbf\xbf\xbf", nil, false},
		{api.FormUTF8, "\xf8\x88\x80\x80\x80", nil, false},
		{api.FormUTF8, "\xfc\x84\x80\x80\x80\x80", nil, false},
		{api.FormUTF8, "\xfe", nil, false},
		{api.FormUTF8, "\xff", nil, false},
		// Bytes that are cut off, or stand alone.
		{api.FormUTF8, "\x80", nil, false},
		{api.FormUTF8, "\xbf", nil, false},
		{api.FormUTF8, "a\xc3", nil, false},
		{api.FormUTF8, "a\xc3b", nil, false},
		{api.FormUTF8, "\xc3\xc3\xa9", nil, false},
		{api.FormUTF8, "\xc3\xa9\xa9", nil, false},
		{api.FormUTF8, "\xf0\x9f\x98", nil, false},
		{api.FormUTF8, "\xf0\x9f\x98z", nil, false},
		// A unit of a pair without the other one, half a unit.
		{api.FormUTF16, "\x3d\xd8", nil, false},
		{api.FormUTF16, "\x00\xde", nil, false},
		{api.FormUTF16, "\x00\xde\x3d\xd8", nil, false},
		{api.FormUTF16, "\x3d\xd8\x41\x00", nil, false},
		{api.FormUTF16, "\x3d\xd8\x3d\xd8\x00\xde", nil, false},
		{api.FormUTF16, "\x3d\xd8\x00\xde\x00\xde", nil, false},
		{api.FormUTF16, "\x3d\xd8\x00\xe0", nil, false},
		{api.FormUTF16, "\x41", nil, false},
		{api.FormUTF16, "\x41\x00\x42", nil, false},
		{api.FormUTF16, "\x3d\xd8\x00", nil, false},
	} {
		asRead(t, x.form, x.s, x.l, x.ok)
	}
}

// 2.1: Read and Valid of FormUTF8, of all bytes by two, and behind them the edges among bytes.
func TestReadUTF8All(t *testing.T) {
	tails := []string{""}
	last := []string{"\x7f", "\x80", "\xbf", "\xc0"}
	for _, a := range last {
		tails = append(tails, a)
		for _, b := range last {
			tails = append(tails, a+b)
		}
	}
	for a := range 256 {
		one := string([]byte{byte(a)})
		asUTF8(t, one)
		for b := range 256 {
			for _, tail := range tails {
				asUTF8(t, one+string([]byte{byte(b)})+tail)
			}
		}
	}
}

// asUTF8 asks Read and Valid.
func asUTF8(t *testing.T, s string) {
	t.Helper()
	l, ok := wantUTF8(s)
	asRead(t, api.FormUTF8, s, l, ok)
	if Valid(s) != ok {
		t.Fatalf("Valid(%x): %v", s, !ok)
	}
}

// wantUTF16 is what units are by the chapter's words.
func wantUTF16(l []int) ([]int, bool) {
	var got []int
	for i := 0; i < len(l); i++ {
		u := l[i]
		switch {
		case u < 0xD800 || u > 0xDFFF:
			got = append(got, u)
		case u <= 0xDBFF && i+1 < len(l) && l[i+1] >= 0xDC00 && l[i+1] <= 0xDFFF:
			got = append(got, 0x10000+(u-0xD800)*0x400+l[i+1]-0xDC00)
			i++
		default:
			return nil, false
		}
	}
	return got, true
}

// 2.1: Read of FormUTF16, of each unit alone, and ahead of and behind the edges among units.
func TestReadUTF16All(t *testing.T) {
	for u := range 0x10000 {
		asUTF16(t, u)
		for _, v := range []int{0x41, 0xD800, 0xDBFF, 0xDC00, 0xDFFF, 0xE000} {
			asUTF16(t, u, v)
			asUTF16(t, v, u)
		}
	}
	for _, u := range units {
		for _, v := range units {
			for _, w := range units {
				asUTF16(t, u, v, w)
			}
		}
	}
}

// asUTF16 asks Read of units, and of them with half a unit behind.
func asUTF16(t *testing.T, l ...int) {
	t.Helper()
	want, ok := wantUTF16(l)
	s := ofUnits(l...)
	asRead(t, api.FormUTF16, s, want, ok)
	asRead(t, api.FormUTF16, s[:len(s)-1], nil, false)
}

// 2.1: bytes that are cut off anywhere are read only where a character ends.
func TestReadCut(t *testing.T) {
	for _, form := range forms {
		var l []int
		whole, ends := "", map[int]int{0: 0}
		for _, p := range edges {
			if formHas(form, p) {
				l = append(l, p)
				whole += written(form, p)
				ends[len(whole)] = len(l)
			}
		}
		for i := range len(whole) + 1 {
			if n, ok := ends[i]; ok {
				asRead(t, form, whole[:i], l[:n], true)
			} else {
				asRead(t, form, whole[:i], nil, false)
			}
		}
	}
}

// 2.1: there are no other forms.
func TestNoForm(t *testing.T) {
	for _, form := range noForms {
		for _, s := range []string{"", "a", "ab", "\x41\x00"} {
			asRead(t, form, s, nil, false)
		}
		for _, l := range [][]int{nil, {}, {0x41}, {0x41, 0x1F600}, {-1}} {
			asWritten(t, form, l, "", false)
		}
	}
}

// 2.1: Valid.
func TestValid(t *testing.T) {
	for s, ok := range map[string]bool{
		"": true, "a": true, "\x00": true, "\xc3\xa9": true, "\xf0\x9f\x98\x80": true, "\xf4\x8f\xbf\xbf": true, "\xed\x9f\xbf": true, "\xee\x80\x80": true,
		"\xc3": false, "\xa9": false, "\xc0\x80": false, "\xed\xa0\x80": false, "\xf4\x90\x80\x80": false, "ok\xff": false, "ok\xf0\x9f\x98": false,
	} {
		if Valid(s) != ok {
			t.Errorf("Valid(%x): %v", s, !ok)
		}
	}
}

// 2.2: Form.
func TestForm(t *testing.T) {
	for _, x := range []struct {
		enc  int
		l    []int
		form int
	}{
		{api.EncUTF8, nil, api.FormUTF8},
		{api.EncUTF8, []int{0x41, 0xFF}, api.FormUTF8},
		{api.EncUTF8, []int{0x10FFFF, -1}, api.FormUTF8},
		{api.EncUTF16, nil, api.FormUTF16},
		{api.EncUTF16, []int{0x41}, api.FormUTF16},
		{api.EncUTF16, []int{0x10FFFF, 0xD800}, api.FormUTF16},
		{api.EncLatin1, nil, api.FormLatin1},
		{api.EncLatin1, []int{}, api.FormLatin1},
		{api.EncLatin1, []int{0, 0x41, 0xFF}, api.FormLatin1},
		{api.EncLatin1, []int{0x100}, api.FormUTF16},
		{api.EncLatin1, []int{0x100, 0x41}, api.FormUTF16},
		{api.EncLatin1, []int{0xFF, 0x41, 0x100}, api.FormUTF16},
		{api.EncLatin1, []int{0x41, 0x1F600, 0x41}, api.FormUTF16},
		// Whether they are characters is not asked.
		{api.EncLatin1, []int{-1}, api.FormLatin1},
		{api.EncLatin1, []int{math.MinInt, 0xFF}, api.FormLatin1},
		{api.EncLatin1, []int{-1, 0x100}, api.FormUTF16},
		{api.EncLatin1, []int{0xD800}, api.FormUTF16},
		{api.EncLatin1, []int{0x110000}, api.FormUTF16},
		{api.EncLatin1, []int{math.MaxInt}, api.FormUTF16},
		{api.EncLatin1, []int{1 << 32}, api.FormUTF16},
	} {
		given := slices.Clone(x.l)
		if form := Form(x.enc, x.l...); form != x.form {
			t.Errorf("Form(%d, %x): %d, want %d", x.enc, x.l, form, x.form)
		}
		if !slices.Equal(given, x.l) {
			t.Errorf("Form changed %x to %x", given, x.l)
		}
	}
	for _, enc := range noForms {
		for _, l := range [][]int{nil, {0x41}, {0x100}, {-1, math.MaxInt}} {
			if form := Form(enc, l...); form != enc {
				t.Errorf("Form(%d, %x): %d", enc, l, form)
			}
		}
	}
}

// 2.2: Size.
func TestSize(t *testing.T) {
	for _, x := range []struct {
		form        int
		l           []int
		bytes, size int
	}{
		{api.FormUTF8, []int{0xE9, 0x1F600}, 6, 6},
		{api.FormUTF16, []int{0xE9, 0x1F600}, 6, 3},
		{api.FormUTF16, []int{0x41}, 2, 1},
		{api.FormLatin1, []int{0x41, 0xFF}, 2, 2},
		{api.FormUTF8, []int{0, 0x7F}, 2, 2},
		{api.FormUTF8, []int{0x80}, 2, 2},
		{api.FormUTF8, []int{0x7FF}, 2, 2},
		{api.FormUTF8, []int{0x800}, 3, 3},
		{api.FormUTF8, []int{0xFFFF}, 3, 3},
		{api.FormUTF8, []int{0x10000}, 4, 4},
		{api.FormUTF16, []int{0xFFFF}, 2, 1},
		{api.FormUTF16, []int{0x10000}, 4, 2},
		{3, []int{0x7F}, 1, 1},
		{3, []int{0x80, 0x7FF}, 4, 4},
		{3, []int{0x800, 0xFFFF}, 6, 6},
		{3, []int{0x10000}, 3, 3},
		{-1, []int{0x10FFFF, 0x41}, 4, 4},
		// By their size alone.
		{api.FormUTF8, []int{-1, math.MinInt}, 2, 2},
		{api.FormUTF8, []int{0xD800, 0xDFFF}, 6, 6},
		{api.FormUTF8, []int{0x110000, math.MaxInt}, 8, 8},
		{api.FormUTF16, []int{-1, math.MinInt}, 4, 2},
		{api.FormUTF16, []int{0xD800, 0xDFFF}, 4, 2},
		{api.FormUTF16, []int{0x110000, math.MaxInt}, 8, 4},
		{api.FormLatin1, []int{-1, math.MinInt, 0x100, 0xD800, 0x10FFFF, math.MaxInt}, 6, 6},
		{math.MaxInt, []int{-1, math.MinInt, math.MaxInt}, 5, 5},
	} {
		given := slices.Clone(x.l)
		if bytes, size := Size(x.form, x.l...); bytes != x.bytes || size != x.size {
			t.Errorf("Size(%d, %x): %d %d, want %d %d", x.form, x.l, bytes, size, x.bytes, x.size)
		}
		if !slices.Equal(given, x.l) {
			t.Errorf("Size changed %x to %x", given, x.l)
		}
	}
	for _, form := range slices.Concat(noForms, forms) {
		if bytes, size := Size(form); bytes != 0 || size != 0 {
			t.Errorf("Size(%d): %d %d", form, bytes, size)
		}
	}
}

// 2.2: Size tells what is written; of no form it is that of FormUTF8 and at most three.
func TestSizeAll(t *testing.T) {
	for p := range 0x110000 {
		if !utf8.ValidRune(rune(p)) {
			continue
		}
		for _, form := range forms {
			want := len(written(form, p))
			units := want
			if form == api.FormUTF16 {
				units = want / 2
			}
			if bytes, size := Size(form, p); bytes != want || size != units {
				t.Fatalf("Size(%d, %x): %d %d", form, p, bytes, size)
			}
		}
		want := min(3, utf8.RuneLen(rune(p)))
		if bytes, size := Size(3, p); bytes != want || size != want {
			t.Fatalf("Size(3, %x): %d %d", p, bytes, size)
		}
	}
}

// 2.3: what is written is read as it was.
func TestWrittenIsRead(t *testing.T) {
	for _, form := range forms {
		var all []int
		for p := range 0x110000 {
			if Scalar(p) && formHas(form, p) {
				all = append(all, p)
			}
		}
		s, ok := Write(form, all...)
		if !ok {
			t.Fatalf("Write(%d) of all characters: none", form)
		}
		if l, ok := Read(form, s); !ok || !slices.Equal(l, all) {
			t.Errorf("Read(%d) of all characters: %d of %d, %v", form, len(l), len(all), ok)
		}
		for _, p := range edges {
			for _, q := range edges {
				if formHas(form, p) && formHas(form, q) {
					s, _ := Write(form, p, q)
					asRead(t, form, s, []int{p, q}, true)
				}
			}
		}
	}
}

// 2.3: what is read was written just so, whatever the bytes are.
func TestReadWasWritten(t *testing.T) {
	some := []byte{0x00, 0x41, 0x7F, 0x80, 0x90, 0xBF, 0xC2, 0xD8, 0xDC, 0xDF, 0xE0, 0xED, 0xF0, 0xF4, 0xFF}
	var grow func(s string)
	grow = func(s string) {
		for _, form := range forms {
			if l, ok := Read(form, s); ok {
				asWritten(t, form, l, s, true)
			}
		}
		if len(s) == 4 {
			return
		}
		for _, c := range some {
			grow(s + string([]byte{c}))
		}
	}
	grow("")
}

// P1: every call ends, and none panics; with a false all else is zero.
func TestNothingElse(t *testing.T) {
	numbers := slices.Concat(edges, noCharacters)
	texts := []string{"", "\x00", "\x80", "\xff", "\xf0", "\xf0\x9f", "\x3d\xd8", "\x3d\xd8\x00", "\xff\xff\xff\xff", strings.Repeat("\xf0", 1000), strings.Repeat("\x3d\xd8", 1000)}
	for _, form := range slices.Concat(noForms, forms) {
		for _, s := range texts {
			if l, ok := Read(form, s); !ok && len(l) != 0 {
				t.Errorf("Read(%d, %x): %x, false", form, s, l)
			}
		}
		for _, p := range numbers {
			if s, ok := Write(form, 0x41, p); !ok && s != "" {
				t.Errorf("Write(%d, %x): %x, false", form, p, s)
			}
			Form(form, p)
			Size(form, p)
			Scalar(form)
		}
	}
}

// A list that was answered is the asker's own, and what lies behind a list's length is neither read nor written.
func TestOwn(t *testing.T) {
	for _, form := range forms {
		a, _ := Read(form, "\x41\x00\x42\x00")
		want := slices.Clone(a)
		clear(a)
		if b, _ := Read(form, "\x41\x00\x42\x00"); !slices.Equal(b, want) {
			t.Error(form, b)
		}
		whole := []int{0x41, 0xD800, math.MaxInt}
		asWritten(t, form, whole[:1], written(form, 0x41), true)
		Form(form, whole[:1]...)
		Size(form, whole[:1]...)
		if !slices.Equal(whole, []int{0x41, 0xD800, math.MaxInt}) {
			t.Error(form, whole)
		}
	}
}
