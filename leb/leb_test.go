package leb

import (
	"math"
	"math/big"
	"math/bits"
	"slices"
	"strings"
	"testing"

	"scarf/api"
)

// edges are the numbers at which a number of seven bits, of a kind of number, or of bytes comes to its end, with their neighbours.
func edges() []int {
	l := []int{math.MinInt, math.MinInt + 1, math.MaxInt - 1, math.MaxInt}
	for k := range 63 {
		for d := -2; d <= 2; d++ {
			l = append(l, 1<<k+d, -1<<k+d)
		}
	}
	return l
}

// heads are what may stand ahead of a last byte: up to eleven bytes from 128 on, of several kinds.
func heads() []string {
	l := []string{""}
	for n := 1; n <= 11; n++ {
		for _, c := range []string{"\x80", "\xff", "\x81", "\xc0", "\xbf", "\xd5"} {
			l = append(l, strings.Repeat(c, n))
		}
		l = append(l, strings.Repeat("\x80", n-1)+"\xc0", strings.Repeat("\xff", n-1)+"\xbf")
	}
	return l
}

// worth tells what bytes come to by the chapter's words, with as many bits as it takes: the number, and how many bytes it has (0: it has no end among the first most).
func worth(s string, most int, signed bool) (*big.Int, int) {
	sum := new(big.Int)
	for i := 0; i < len(s) && i < most; i++ {
		sum.Add(sum, new(big.Int).Lsh(big.NewInt(int64(s[i]&127)), uint(7*i)))
		if s[i] < 128 {
			if signed && s[i]&64 != 0 {
				sum.Sub(sum, new(big.Int).Lsh(big.NewInt(1), uint(7*i+7)))
			}
			return sum, i + 1
		}
	}
	return nil, 0
}

// power is 2 to the k.
func power(k int) *big.Int { return new(big.Int).Lsh(big.NewInt(1), uint(k)) }

// wantTaken is what the chapter says of s: a number from least to below, of so many bytes at most.
func wantTaken(s string, most int, signed bool, least, below *big.Int) (int, string, api.Errno) {
	n, used := worth(s, most, signed)
	if used == 0 || n.Cmp(least) < 0 || n.Cmp(below) >= 0 {
		return 0, "", api.ErrForm
	}
	return int(n.Int64()), s[used:], api.OK
}

// 1.1: PutU.
func TestPutU(t *testing.T) {
	for _, x := range []struct {
		n int
		s string
	}{
		{0, "\x00"}, {1, "\x01"}, {127, "\x7f"}, {128, "\x80\x01"}, {300, "\xac\x02"}, {16383, "\xff\x7f"}, {16384, "\x80\x80\x01"},
		{1<<32 - 1, "\xff\xff\xff\xff\x0f"}, {1 << 32, "\x80\x80\x80\x80\x10"},
		{math.MaxInt, "\xff\xff\xff\xff\xff\xff\xff\xff\x7f"},
		{-1, ""}, {-128, ""}, {math.MinInt, ""},
	} {
		if s := PutU(x.n); s != x.s {
			t.Errorf("PutU(%d): %x, want %x", x.n, s, x.s)
		}
	}
}

// 1.1: PutU has as few bytes as there can be, and they come to the number.
func TestPutUFew(t *testing.T) {
	for _, n := range edges() {
		s := PutU(n)
		if n < 0 {
			if s != "" {
				t.Errorf("PutU(%d): %x", n, s)
			}
			continue
		}
		few := max(1, (bits.Len64(uint64(n))+6)/7)
		got, used := worth(s, len(s), false)
		if len(s) != few || used != few || !got.IsInt64() || int(got.Int64()) != n {
			t.Errorf("PutU(%d): %x, want %d bytes", n, s, few)
		}
	}
}

// 1.1: PutS.
func TestPutS(t *testing.T) {
	for _, x := range []struct {
		n int
		s string
	}{
		{0, "\x00"}, {1, "\x01"}, {63, "\x3f"}, {64, "\xc0\x00"}, {127, "\xff\x00"}, {128, "\x80\x01"}, {8191, "\xff\x3f"}, {8192, "\x80\xc0\x00"},
		{-1, "\x7f"}, {-64, "\x40"}, {-65, "\xbf\x7f"}, {-128, "\x80\x7f"}, {-8192, "\x80\x40"}, {-8193, "\xff\xbf\x7f"},
		{math.MaxInt, "\xff\xff\xff\xff\xff\xff\xff\xff\xff\x00"},
		{math.MinInt, "\x80\x80\x80\x80\x80\x80\x80\x80\x80\x7f"},
	} {
		if s := PutS(x.n); s != x.s {
			t.Errorf("PutS(%d): %x, want %x", x.n, s, x.s)
		}
	}
}

// 1.1: PutS has as few bytes as there can be, and they come to the number.
func TestPutSFew(t *testing.T) {
	for _, n := range edges() {
		s := PutS(n)
		few := (bits.Len64(uint64(max(n, ^n))) + 1 + 6) / 7
		got, used := worth(s, len(s), true)
		if len(s) != few || used != few || !got.IsInt64() || int(got.Int64()) != n {
			t.Errorf("PutS(%d): %x, want %d bytes", n, s, few)
		}
	}
}

// 1.2: TakeU.
func TestTakeU(t *testing.T) {
	for _, x := range []struct {
		s    string
		n    int
		rest string
		e    api.Errno
	}{
		{"\x00", 0, "", api.OK},
		{"\x7f\x80", 127, "\x80", api.OK},
		{"\xac\x02", 300, "", api.OK},
		{"\xac\x02\x00xyz", 300, "\x00xyz", api.OK},
		{"\xff\xff\xff\xff\x0f", 1<<32 - 1, "", api.OK},
		{"\xff\xff\xff\xff\x0f\xff", 1<<32 - 1, "\xff", api.OK},
		// More bytes than it needs.
		{"\x80\x00", 0, "", api.OK},
		{"\xff\x00z", 127, "z", api.OK},
		{"\x80\x80\x80\x80\x00", 0, "", api.OK},
		{"\x85\x80\x80\x80\x00q", 5, "q", api.OK},
		// No end.
		{"", 0, "", api.ErrForm},
		{"\x80", 0, "", api.ErrForm},
		{"\xff\xff\xff\xff", 0, "", api.ErrForm},
		{"\x80\x80\x80\x80\x80", 0, "", api.ErrForm},
		// The end is the sixth byte.
		{"\x80\x80\x80\x80\x80\x00", 0, "", api.ErrForm},
		{"\xff\xff\xff\xff\x8f\x00", 0, "", api.ErrForm},
		// One more than the greatest, and more.
		{"\x80\x80\x80\x80\x10", 0, "", api.ErrForm},
		{"\xff\xff\xff\xff\x1f", 0, "", api.ErrForm},
		{"\x80\x80\x80\x80\x40", 0, "", api.ErrForm},
		{"\xff\xff\xff\xff\x7f", 0, "", api.ErrForm},
	} {
		if n, rest, e := TakeU(x.s); n != x.n || rest != x.rest || e != x.e {
			t.Errorf("TakeU(%x): %d %x %d, want %d %x %d", x.s, n, rest, e, x.n, x.rest, x.e)
		}
	}
}

// 1.2: TakeU, at each last byte behind heads of each length.
func TestTakeUAll(t *testing.T) {
	for _, head := range heads() {
		for last := range 256 {
			for _, tail := range []string{"", "\x00", "z\xff"} {
				s := head + string([]byte{byte(last)}) + tail
				wn, wrest, we := wantTaken(s, 5, false, big.NewInt(0), power(32))
				if n, rest, e := TakeU(s); n != wn || rest != wrest || e != we {
					t.Fatalf("TakeU(%x): %d %x %d, want %d %x %d", s, n, rest, e, wn, wrest, we)
				}
			}
		}
	}
}

// 1.2: TakeS.
func TestTakeS(t *testing.T) {
	for _, x := range []struct {
		s    string
		bits int
		n    int
		rest string
		e    api.Errno
	}{
		{"\x7f", 32, -1, "", api.OK},
		{"\x7f", 33, -1, "", api.OK},
		{"\x7fz", 64, -1, "z", api.OK},
		{"\xff\x7f", 32, -1, "", api.OK},
		{"\x3f\x40", 32, 63, "\x40", api.OK},
		{"\x40\x3f", 32, -64, "\x3f", api.OK},
		{"\xc0\x00", 32, 64, "", api.OK},
		// The bits behind the last byte's bit 6: of 32 bits.
		{"\xff\xff\xff\xff\x07", 32, 1<<31 - 1, "", api.OK},
		{"\x80\x80\x80\x80\x78", 32, -1 << 31, "", api.OK},
		{"\xff\xff\xff\xff\x7f", 32, -1, "", api.OK},
		{"\x80\x80\x80\x80\x08", 32, 0, "", api.ErrForm},
		{"\xff\xff\xff\xff\x77", 32, 0, "", api.ErrForm},
		{"\xff\xff\xff\xff\x0f", 32, 0, "", api.ErrForm},
		{"\x80\x80\x80\x80\x70", 32, 0, "", api.ErrForm},
		{"\xff\xff\xff\xff\x3f", 32, 0, "", api.ErrForm},
		// Of 33 bits.
		{"\xff\xff\xff\xff\x0f", 33, 1<<32 - 1, "", api.OK},
		{"\x80\x80\x80\x80\x70", 33, -1 << 32, "", api.OK},
		{"\x80\x80\x80\x80\x10", 33, 0, "", api.ErrForm},
		{"\xff\xff\xff\xff\x6f", 33, 0, "", api.ErrForm},
		// Of 64 bits: the tenth byte is 0 or 127.
		{"\xff\xff\xff\xff\xff\xff\xff\xff\xff\x00", 64, math.MaxInt, "", api.OK},
		{"\x80\x80\x80\x80\x80\x80\x80\x80\x80\x7f", 64, math.MinInt, "", api.OK},
		{"\xff\xff\xff\xff\xff\xff\xff\xff\xff\x7fz", 64, -1, "z", api.OK},
		{"\x80\x80\x80\x80\x80\x80\x80\x80\x80\x00", 64, 0, "", api.OK},
		{"\xff\xff\xff\xff\xff\xff\xff\xff\xff\x01", 64, 0, "", api.ErrForm},
		{"\x80\x80\x80\x80\x80\x80\x80\x80\x80\x7e", 64, 0, "", api.ErrForm},
		{"\x80\x80\x80\x80\x80\x80\x80\x80\x80\x40", 64, 0, "", api.ErrForm},
		// Five bytes, and ten; one more.
		{"\x80\x80\x80\x80\x80\x00", 32, 0, "", api.ErrForm},
		{"\x80\x80\x80\x80\x80\x00", 33, 0, "", api.ErrForm},
		{"\x80\x80\x80\x80\x80\x00", 64, 0, "", api.OK},
		{"\x80\x80\x80\x80\x80\x80\x80\x80\x80\x80\x00", 64, 0, "", api.ErrForm},
		// No end.
		{"", 32, 0, "", api.ErrForm},
		{"", 64, 0, "", api.ErrForm},
		{"\xff", 33, 0, "", api.ErrForm},
		{"\xff\xff\xff\xff\xff\xff\xff\xff\xff", 64, 0, "", api.ErrForm},
		// Other bits, whatever the bytes are.
		{"\x00", 31, 0, "", api.ErrArg},
		{"\x00", 34, 0, "", api.ErrArg},
		{"\x00", 63, 0, "", api.ErrArg},
		{"\x00", 65, 0, "", api.ErrArg},
		{"\x00", 0, 0, "", api.ErrArg},
		{"\x00", -32, 0, "", api.ErrArg},
		{"\x00", math.MaxInt, 0, "", api.ErrArg},
		{"\x00", math.MinInt, 0, "", api.ErrArg},
		{"", 16, 0, "", api.ErrArg},
	} {
		if n, rest, e := TakeS(x.s, x.bits); n != x.n || rest != x.rest || e != x.e {
			t.Errorf("TakeS(%x, %d): %d %x %d, want %d %x %d", x.s, x.bits, n, rest, e, x.n, x.rest, x.e)
		}
	}
}

// 1.2: TakeS, at each last byte behind heads of each length.
func TestTakeSAll(t *testing.T) {
	for _, b := range []struct{ bits, most int }{{32, 5}, {33, 5}, {64, 10}} {
		least, below := new(big.Int).Neg(power(b.bits-1)), power(b.bits-1)
		for _, head := range heads() {
			for last := range 256 {
				for _, tail := range []string{"", "\x7f", "z\xff"} {
					s := head + string([]byte{byte(last)}) + tail
					wn, wrest, we := wantTaken(s, b.most, true, least, below)
					if n, rest, e := TakeS(s, b.bits); n != wn || rest != wrest || e != we {
						t.Fatalf("TakeS(%x, %d): %d %x %d, want %d %x %d", s, b.bits, n, rest, e, wn, wrest, we)
					}
				}
			}
		}
	}
}

// 1.3: PutBytes and TakeBytes.
func TestBytes(t *testing.T) {
	long := strings.Repeat("x\x80", 150)
	for _, x := range []struct{ s, laid string }{
		{"", "\x00"}, {"ab", "\x02ab"}, {"\x00", "\x01\x00"}, {"\xff\x80", "\x02\xff\x80"}, {long, "\xac\x02" + long},
	} {
		if laid := PutBytes(x.s); laid != x.laid {
			t.Errorf("PutBytes(%x): %x", x.s, laid)
		}
	}
	for _, x := range []struct {
		s, b, rest string
		e          api.Errno
	}{
		{"\x00", "", "", api.OK},
		{"\x00abc", "", "abc", api.OK},
		{"\x02abc", "ab", "c", api.OK},
		{"\x03abc", "abc", "", api.OK},
		{"\x83\x00abcd", "abc", "d", api.OK},
		{"\xac\x02" + long + "z", long, "z", api.OK},
		// One too few, and far too few.
		{"\x04abc", "", "", api.ErrForm},
		{"\x01", "", "", api.ErrForm},
		{"\xff\xff\xff\xff\x0fabc", "", "", api.ErrForm},
		// No number.
		{"", "", "", api.ErrForm},
		{"\x80", "", "", api.ErrForm},
		{"\x80\x80\x80\x80\x10abc", "", "", api.ErrForm},
		{"\x80\x80\x80\x80\x80\x00abc", "", "", api.ErrForm},
	} {
		if b, rest, e := TakeBytes(x.s); b != x.b || rest != x.rest || e != x.e {
			t.Errorf("TakeBytes(%x): %x %x %d", x.s, b, rest, e)
		}
	}
}

// 1.3: PutAll.
func TestPutAll(t *testing.T) {
	for _, x := range []struct {
		l []int
		s string
	}{
		{nil, "\x00"},
		{[]int{}, "\x00"},
		{[]int{0}, "\x01\x00"},
		{[]int{5, 128, 300}, "\x03\x05\x80\x01\xac\x02"},
		{[]int{1<<32 - 1, 1 << 32}, "\x02\xff\xff\xff\xff\x0f\x80\x80\x80\x80\x10"},
		{make([]int, 200), "\xc8\x01" + strings.Repeat("\x00", 200)},
		// Of a number below 0 PutU gives nothing; it is counted all the same.
		{[]int{7, -1, 8}, "\x03\x07\x08"},
		{[]int{math.MinInt}, "\x01"},
	} {
		given := slices.Clone(x.l)
		if s := PutAll(x.l...); s != x.s {
			t.Errorf("PutAll(%v): %x, want %x", x.l, s, x.s)
		}
		if !slices.Equal(given, x.l) {
			t.Errorf("PutAll changed %v to %v", given, x.l)
		}
	}
	if s := PutAll(1, 2, 3); s != "\x03\x01\x02\x03" {
		t.Errorf("PutAll(1, 2, 3): %x", s)
	}
}

// 1.3: TakeAll.
func TestTakeAll(t *testing.T) {
	for _, x := range []struct {
		s    string
		most int
		l    []int
		rest string
		e    api.Errno
	}{
		{"\x00", 5, nil, "", api.OK},
		{"\x00z", 0, nil, "z", api.OK},
		{"\x01\x07", 1, []int{7}, "", api.OK},
		{"\x02\x05\x80\x01x", 2, []int{5, 128}, "x", api.OK},
		{"\x02\x05\x80\x01x", math.MaxInt, []int{5, 128}, "x", api.OK},
		{"\x82\x00\x85\x00\xff\xff\xff\xff\x0f\x80", 2, []int{5, 1<<32 - 1}, "\x80", api.OK},
		// More than most, whatever is behind.
		{"\x03\x01\x02\x03", 2, nil, "", api.ErrFull},
		{"\x03", 2, nil, "", api.ErrFull},
		{"\x03\x80", 2, nil, "", api.ErrFull},
		{"\x03\x80\x80\x80\x80\x80", 2, nil, "", api.ErrFull},
		{"\x01\x00", 0, nil, "", api.ErrFull},
		{"\x00", -1, nil, "", api.ErrFull},
		{"\x00", math.MinInt, nil, "", api.ErrFull},
		{"\xff\xff\xff\xff\x0f", 1<<32 - 2, nil, "", api.ErrFull},
		// No count: TakeU's error, whatever most is.
		{"", 2, nil, "", api.ErrForm},
		{"\x80", 2, nil, "", api.ErrForm},
		{"\x80", -1, nil, "", api.ErrForm},
		{"\x80\x80\x80\x80\x10", 2, nil, "", api.ErrForm},
		// Too few numbers, one that has no end, one that is too great.
		{"\x02\x05", 2, nil, "", api.ErrForm},
		{"\x02\x05\x80", 2, nil, "", api.ErrForm},
		{"\x02\x05\x80\x80\x80\x80\x10", 2, nil, "", api.ErrForm},
		{"\x01\x80\x80\x80\x80\x80\x00", 1, nil, "", api.ErrForm},
		// Far more are told than there are.
		{"\xff\xff\xff\xff\x0f", 1<<32 - 1, nil, "", api.ErrForm},
		{"\xff\xff\xff\xff\x0f\x01\x02", math.MaxInt, nil, "", api.ErrForm},
	} {
		l, rest, e := TakeAll(x.s, x.most)
		if !slices.Equal(l, x.l) || rest != x.rest || e != x.e {
			t.Errorf("TakeAll(%x, %d): %v %x %d, want %v %x %d", x.s, x.most, l, rest, e, x.l, x.rest, x.e)
		}
	}
}

// 1.4: what PutU and PutS lay is taken.
func TestNumbersAgain(t *testing.T) {
	for _, n := range edges() {
		if n >= 0 {
			again(t, "TakeU", n, n < 1<<32, TakeU, PutU(n))
		}
		for _, bits := range []int{32, 33, 64} {
			take := func(s string) (int, string, api.Errno) { return TakeS(s, bits) }
			fit := bits == 64 || -1<<(bits-1) <= n && n < 1<<(bits-1)
			again(t, "TakeS", n, fit, take, PutS(n))
		}
	}
}

// again asks that what was laid is taken, if it may be, whatever is behind, and that nothing of it is enough.
func again(t *testing.T, name string, n int, fit bool, take func(string) (int, string, api.Errno), laid string) {
	t.Helper()
	for _, tail := range []string{"", "\x00", "\xff\xff"} {
		got, rest, e := take(laid + tail)
		if fit && (got != n || rest != tail || e != api.OK) || !fit && (got != 0 || rest != "" || e != api.ErrForm) {
			t.Errorf("%s of %d, %x: %d %x %d", name, n, laid+tail, got, rest, e)
		}
	}
	for i := range laid {
		if got, rest, e := take(laid[:i]); got != 0 || rest != "" || e != api.ErrForm {
			t.Errorf("%s of %d, but for its end, %x: %d %x %d", name, n, laid[:i], got, rest, e)
		}
	}
}

// 1.4: what PutBytes and PutAll lay is taken.
func TestListsAgain(t *testing.T) {
	var l []int
	for n := range 300 {
		s := strings.Repeat("\x80a", n)
		if b, rest, e := TakeBytes(PutBytes(s) + "\x01z"); b != s || rest != "\x01z" || e != api.OK {
			t.Errorf("%d bytes: %x %x %d", n, b, rest, e)
		}
		laid := PutAll(l...)
		if got, rest, e := TakeAll(laid+"\x01z", n); !slices.Equal(got, l) || rest != "\x01z" || e != api.OK {
			t.Errorf("%d numbers: %v %x %d", n, got, rest, e)
		}
		if _, _, e := TakeAll(laid, n-1); e != api.ErrFull {
			t.Errorf("%d numbers, one less at most: %d", n, e)
		}
		l = append(l, n*n*n*n%(1<<32))
	}
}

// P1: every call ends, and none panics; with an error all else is zero, otherwise the rest is the end of what was given.
func TestNothingElse(t *testing.T) {
	for a := range 256 {
		for b := range 256 {
			calmAll(t, string([]byte{byte(a), byte(b)}))
		}
	}
	for _, head := range append(heads(), strings.Repeat("\x80", 1<<16)) {
		for _, tail := range []string{"", "\x00", "\x01", "\x7f", "\x40\x02"} {
			calmAll(t, head+tail)
		}
	}
	for _, n := range edges() {
		PutU(n)
		PutS(n)
		PutAll(n, n)
		TakeS("\x00", n)
		TakeAll("\x01\x00", n)
	}
	PutAll()
	PutBytes("")
}

// calmAll hands s to every call that takes.
func calmAll(t *testing.T, s string) {
	t.Helper()
	n, rest, e := TakeU(s)
	calm(t, "TakeU", s, n == 0, rest, e)
	for _, bits := range []int{32, 33, 64, 0, -1} {
		n, rest, e := TakeS(s, bits)
		calm(t, "TakeS", s, n == 0, rest, e)
	}
	b, rest, e := TakeBytes(s)
	calm(t, "TakeBytes", s, b == "", rest, e)
	for _, most := range []int{-1, 0, 1, math.MaxInt} {
		l, rest, e := TakeAll(s, most)
		calm(t, "TakeAll", s, len(l) == 0, rest, e)
	}
}

// calm looks at one answer.
func calm(t *testing.T, name, s string, zero bool, rest string, e api.Errno) {
	t.Helper()
	if e != api.OK && (!zero || rest != "") || !strings.HasSuffix(s, rest) || e == api.OK && len(rest) >= len(s) {
		t.Errorf("%s(%x): %x %d", name, s, rest, e)
	}
}

// Two lists that were answered share nothing, and a list that was laid does not hang on what lies behind it.
func TestOwn(t *testing.T) {
	s := PutAll(1, 2, 3)
	a, _, _ := TakeAll(s, 3)
	clear(a)
	if b, _, _ := TakeAll(s, 3); !slices.Equal(b, []int{1, 2, 3}) {
		t.Error(b)
	}
	whole := []int{1, 2, 3}
	PutAll(whole[:1]...)
	if !slices.Equal(whole, []int{1, 2, 3}) {
		t.Error(whole)
	}
}
