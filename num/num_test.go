package num

import (
	"math"
	"math/big"
	"strings"
	"testing"

	"scarf/api"
)

// op is an instruction: its opcode, its name and its bits, of what type the numbers are that it takes and leaves.
type op struct {
	code        int
	name        string
	bits        int
	takes, left int
}

// ofOne are the instructions that take one number, as the chapter lists them.
func ofOne() []op {
	return []op{
		{0x45, "eqz", 32, api.I32, api.I32}, {0x50, "eqz", 64, api.I64, api.I32},
		{0x67, "clz", 32, api.I32, api.I32}, {0x79, "clz", 64, api.I64, api.I64},
		{0x68, "ctz", 32, api.I32, api.I32}, {0x7A, "ctz", 64, api.I64, api.I64},
		{0x69, "popcnt", 32, api.I32, api.I32}, {0x7B, "popcnt", 64, api.I64, api.I64},
		{0xA7, "low32_u", 64, api.I64, api.I32}, {0xAC, "low32_s", 32, api.I32, api.I64}, {0xAD, "low32_u", 32, api.I32, api.I64},
		{0xC0, "low8_s", 32, api.I32, api.I32}, {0xC1, "low16_s", 32, api.I32, api.I32},
		{0xC2, "low8_s", 64, api.I64, api.I64}, {0xC3, "low16_s", 64, api.I64, api.I64}, {0xC4, "low32_s", 64, api.I64, api.I64},
	}
}

// ofTwo are those that take two.
func ofTwo() []op {
	var l []op
	for i, name := range strings.Fields("eq ne lt_s lt_u gt_s gt_u le_s le_u ge_s ge_u") {
		l = append(l, op{0x46 + i, name, 32, api.I32, api.I32}, op{0x51 + i, name, 64, api.I64, api.I32})
	}
	for i, name := range strings.Fields("add sub mul div_s div_u rem_s rem_u and or xor shl shr_s shr_u rotl rotr") {
		l = append(l, op{0x6A + i, name, 32, api.I32, api.I32}, op{0x7C + i, name, 64, api.I64, api.I64})
	}
	return l
}

// none are opcodes that there are not: all of a byte that are not listed, and others that would be, were they cut to fewer bits.
func none() []int {
	listed := map[int]bool{}
	for _, o := range append(ofOne(), ofTwo()...) {
		listed[o.code] = true
	}
	var l []int
	for code := -0x200; code < 0x400; code++ {
		if !listed[code] {
			l = append(l, code)
		}
	}
	for code := range listed {
		l = append(l, -code, code+0x10000, code+1<<32, code|math.MinInt)
	}
	return append(l, 0xFC00, 0xFC08, 0xFC45, 0xFC6A, math.MaxInt, math.MinInt, math.MinInt+1)
}

// edges are the numbers at which a type's numbers come to their end, turn their sign, or have more bits than an instruction takes, and some between.
func edges() []int {
	l := []int{
		0, 1, -1, 2, -2, 3, -3, 5, -5, 7, -7, 10, 100, -100, 0x7E, 0x7F, 0x80, 0x81, 0xFF, 0x100, 0x7FFF, 0x8000, 0xFFFF, 0x10000, 0x18080, 0x123456, -0x123456,
		math.MinInt, math.MinInt + 1, math.MaxInt, math.MaxInt - 1, math.MinInt32, math.MinInt32 + 1, math.MinInt32 - 1, math.MaxInt32, math.MaxInt32 - 1,
		1 << 31, 1<<31 + 1, 1<<32 - 1, 1<<32 - 2, 1 << 32, 1<<32 + 1, 1<<32 + 1<<31, 1<<33 - 1, 1 << 62, -1 << 62, 0x0123456789ABCDEF, -0x0123456789ABCDEF,
		0x5555555555555555, -0x5555555555555556, 0x33333333, 0xCCCCCCCC, 0x80808080, 0x7F80FF0080007FFF,
		// They are 0, 1 or -1 of 32 bits, and something else above these.
		1 << 40, 1<<40 + 1, 1<<40 + 1<<32 - 1, math.MinInt + 0xFFFFFFFF, -1 << 32,
	}
	return append(l, turns...)
}

// turns are numbers of bits to shift and to turn by.
var turns = []int{0, 1, 4, 15, 16, 30, 31, 32, 33, 34, 48, 62, 63, 64, 65, 66, 95, 96, 127, 128, -1, -31, -32, -33, -63, -64, -65, 1 << 31, 1<<32 + 5, math.MinInt + 3, math.MaxInt}

// bound is 2 to the bits.
func bound(bits int) *big.Int { return new(big.Int).Lsh(big.NewInt(1), uint(bits)) }

// unsigned is what the lowest bits of n come to, from 0 on.
func unsigned(n *big.Int, bits int) *big.Int { return new(big.Int).Mod(n, bound(bits)) }

// signed is what they come to by their two's complement.
func signed(n *big.Int, bits int) *big.Int {
	u := unsigned(n, bits)
	if u.Bit(bits-1) == 1 {
		u.Sub(u, bound(bits))
	}
	return u
}

// told is a number as one of a type is told.
func told(n *big.Int, typ int) int {
	if typ == api.I32 {
		return int(unsigned(n, 32).Int64())
	}
	return int(signed(n, 64).Int64())
}

// one is 1 for what holds.
func one(holds bool) *big.Int {
	if holds {
		return big.NewInt(1)
	}
	return new(big.Int)
}

// wantUn is what the chapter says of an instruction that takes one number.
func wantUn(o op, a int) int {
	s, u := signed(big.NewInt(int64(a)), o.bits), unsigned(big.NewInt(int64(a)), o.bits)
	n := new(big.Int)
	switch o.name {
	case "eqz":
		n = one(u.Sign() == 0)
	case "clz":
		n.SetInt64(int64(o.bits - u.BitLen()))
	case "ctz":
		n.SetInt64(int64(o.bits))
		if u.Sign() != 0 {
			n.SetInt64(int64(u.TrailingZeroBits()))
		}
	case "popcnt":
		n.SetInt64(int64(strings.Count(u.Text(2), "1")))
	case "low8_s":
		n = signed(s, 8)
	case "low16_s":
		n = signed(s, 16)
	case "low32_s":
		n = signed(s, 32)
	case "low32_u":
		n = unsigned(s, 32)
	}
	return told(n, o.left)
}

// wantBin is what it says of one that takes two.
func wantBin(o op, a, b int) (int, api.Trap) {
	kind, isUnsigned := strings.CutSuffix(o.name, "_u")
	kind = strings.TrimSuffix(kind, "_s")
	x, y := signed(big.NewInt(int64(a)), o.bits), signed(big.NewInt(int64(b)), o.bits)
	if isUnsigned {
		x, y = unsigned(x, o.bits), unsigned(y, o.bits)
	}
	n := new(big.Int)
	switch kind {
	case "eq", "ne", "lt", "gt", "le", "ge":
		n = one(wantOrder(kind, x.Cmp(y)))
	case "add":
		n.Add(x, y)
	case "sub":
		n.Sub(x, y)
	case "mul":
		n.Mul(x, y)
	case "div", "rem":
		return wantQuotient(o, x, y)
	case "and":
		n.And(x, y)
	case "or":
		n.Or(x, y)
	case "xor":
		n.Xor(x, y)
	default:
		n = wantTurn(o, kind, x, y)
	}
	return told(n, o.left), api.NoTrap
}

// wantOrder is whether what compares so holds.
func wantOrder(kind string, c int) bool {
	switch kind {
	case "eq":
		return c == 0
	case "ne":
		return c != 0
	case "lt":
		return c == -1
	case "gt":
		return c == 1
	case "le":
		return c != 1
	}
	return c != -1
}

// wantQuotient cuts towards 0, as Quo and Rem do.
func wantQuotient(o op, x, y *big.Int) (int, api.Trap) {
	if y.Sign() == 0 {
		return 0, api.TrapDivide
	}
	if strings.HasPrefix(o.name, "rem") {
		return told(new(big.Int).Rem(x, y), o.left), api.NoTrap
	}
	n := new(big.Int).Quo(x, y)
	if o.name == "div_s" && n.Cmp(bound(o.bits-1)) == 0 {
		return 0, api.TrapOverflow
	}
	return told(n, o.left), api.NoTrap
}

// wantTurn shifts and turns one bit at a time.
func wantTurn(o op, kind string, x, y *big.Int) *big.Int {
	u := unsigned(x, o.bits)
	top := o.bits - 1
	for range int(unsigned(y, 64).Uint64() % uint64(o.bits)) {
		first, last := u.Bit(top), u.Bit(0)
		switch kind {
		case "shl", "rotl":
			u = unsigned(u.Lsh(u, 1), o.bits)
			if kind == "rotl" {
				u.SetBit(u, 0, first)
			}
		default:
			u.Rsh(u, 1)
			if kind == "rotr" {
				u.SetBit(u, top, last)
			}
			if o.name == "shr_s" {
				u.SetBit(u, top, first)
			}
		}
	}
	return u
}

// asUn asks what Un says.
func asUn(t *testing.T, code, a, want int) {
	t.Helper()
	if n, ok := Un(code, a); n != want || !ok {
		t.Errorf("Un(%x, %x): %x %v, want %x", code, a, n, ok, want)
	}
}

// asBin asks what Bin says.
func asBin(t *testing.T, code, a, b, want int, trap api.Trap) {
	t.Helper()
	if n, is, ok := Bin(code, a, b); n != want || is != trap || !ok {
		t.Errorf("Bin(%x, %x, %x): %x %d %v, want %x %d", code, a, b, n, is, ok, want, trap)
	}
}

// 3.1: Sig.
func TestSig(t *testing.T) {
	asSig := func(code, takes, of, left int) {
		t.Helper()
		if n, p, r := Sig(code); n != takes || p != of || r != left {
			t.Errorf("Sig(%x): %d %x %x", code, n, p, r)
		}
	}
	for _, o := range ofOne() {
		asSig(o.code, 1, o.takes, o.left)
	}
	for _, o := range ofTwo() {
		asSig(o.code, 2, o.takes, o.left)
	}
	for _, code := range none() {
		asSig(code, 0, 0, 0)
	}
}

// 3.1: U32 and S32.
func TestLowest(t *testing.T) {
	for _, x := range [][3]int{
		{0, 0, 0}, {1, 1, 1}, {-1, 1<<32 - 1, -1}, {-2, 1<<32 - 2, -2}, {1<<31 - 1, 1<<31 - 1, 1<<31 - 1}, {1 << 31, 1 << 31, -1 << 31}, {1<<31 + 1, 1<<31 + 1, -1<<31 + 1},
		{-1 << 31, 1 << 31, -1 << 31}, {-1<<31 - 1, 1<<31 - 1, 1<<31 - 1}, {1<<32 - 1, 1<<32 - 1, -1}, {1 << 32, 0, 0}, {1<<32 + 7, 7, 7}, {-1 << 32, 0, 0}, {-1<<32 - 1, 1<<32 - 1, -1},
		{math.MaxInt, 1<<32 - 1, -1}, {math.MinInt, 0, 0}, {math.MinInt + 5, 5, 5}, {0x7000000080000000, 1 << 31, -1 << 31},
	} {
		if U32(x[0]) != x[1] || S32(x[0]) != x[2] {
			t.Errorf("%x: %x %x, want %x %x", x[0], U32(x[0]), S32(x[0]), x[1], x[2])
		}
	}
	for _, n := range edges() {
		b := big.NewInt(int64(n))
		if u, s := unsigned(b, 32).Int64(), signed(b, 32).Int64(); U32(n) != int(u) || S32(n) != int(s) {
			t.Errorf("%x: %x %x", n, U32(n), S32(n))
		}
	}
}

// 3.2: Un, by numbers.
func TestUn(t *testing.T) {
	for _, x := range [][3]int{
		{0x45, 0, 1}, {0x45, 1, 0}, {0x45, 1 << 31, 0}, {0x45, -1, 0}, {0x45, 1 << 32, 1},
		{0x50, 0, 1}, {0x50, 1, 0}, {0x50, 1 << 32, 0}, {0x50, math.MinInt, 0},
		{0x67, 0, 32}, {0x67, 1, 31}, {0x67, 1 << 31, 0}, {0x67, 1<<31 - 1, 1}, {0x67, 1 << 32, 32}, {0x67, -1, 0}, {0x67, 0xFFFF, 16},
		{0x68, 0, 32}, {0x68, 1, 0}, {0x68, 1 << 31, 31}, {0x68, 1 << 32, 32}, {0x68, -8, 3},
		{0x69, 0, 0}, {0x69, 1<<32 - 1, 32}, {0x69, -1, 32}, {0x69, 1 << 40, 0}, {0x69, 0xF0F, 8},
		{0x79, 0, 64}, {0x79, 1, 63}, {0x79, 1 << 32, 31}, {0x79, math.MaxInt, 1}, {0x79, -1, 0}, {0x79, math.MinInt, 0},
		{0x7A, 0, 64}, {0x7A, 1, 0}, {0x7A, 1 << 32, 32}, {0x7A, math.MinInt, 63}, {0x7A, -1, 0},
		{0x7B, 0, 0}, {0x7B, -1, 64}, {0x7B, math.MaxInt, 63}, {0x7B, 1 << 40, 1}, {0x7B, math.MinInt, 1},
		{0xA7, 5, 5}, {0xA7, -1, 1<<32 - 1}, {0xA7, 1 << 32, 0}, {0xA7, -1 << 31, 1 << 31}, {0xA7, math.MinInt + 9, 9},
		{0xAC, 5, 5}, {0xAC, 1<<32 - 1, -1}, {0xAC, 1 << 31, -1 << 31}, {0xAC, 1<<31 - 1, 1<<31 - 1}, {0xAC, 1 << 32, 0},
		{0xAD, 5, 5}, {0xAD, 1<<32 - 1, 1<<32 - 1}, {0xAD, -1, 1<<32 - 1}, {0xAD, 1 << 31, 1 << 31}, {0xAD, 1<<32 + 1, 1},
		{0xC0, 0x7F, 0x7F}, {0xC0, 0x80, 1<<32 - 0x80}, {0xC0, 0xFF, 1<<32 - 1}, {0xC0, 0x100, 0}, {0xC0, 0x1234567F, 0x7F}, {0xC0, 0x12345680, 1<<32 - 0x80},
		{0xC1, 0x7FFF, 0x7FFF}, {0xC1, 0x8000, 1<<32 - 0x8000}, {0xC1, 0xFFFF, 1<<32 - 1}, {0xC1, 0x10000, 0}, {0xC1, 0x80, 0x80},
		{0xC2, 0x7F, 0x7F}, {0xC2, 0x80, -0x80}, {0xC2, 0xFF, -1}, {0xC2, 0x100, 0}, {0xC2, math.MinInt, 0},
		{0xC3, 0x7FFF, 0x7FFF}, {0xC3, 0x8000, -0x8000}, {0xC3, 0xFFFF, -1}, {0xC3, 0x10000, 0}, {0xC3, 0x80, 0x80},
		{0xC4, 1<<31 - 1, 1<<31 - 1}, {0xC4, 1 << 31, -1 << 31}, {0xC4, 1<<32 - 1, -1}, {0xC4, 1 << 32, 0}, {0xC4, 0x8000, 0x8000},
	} {
		asUn(t, x[0], x[1], x[2])
	}
}

// 3.2: Un, of each instruction and each edge, of each bit and what is left below and above it.
func TestUnAll(t *testing.T) {
	l := edges()
	for k := range 64 {
		l = append(l, 1<<k, 1<<k-1, 1<<k+1, ^(1 << k), -1<<k, 3<<k)
	}
	for _, o := range ofOne() {
		for _, a := range l {
			asUn(t, o.code, a, wantUn(o, a))
		}
	}
}

// 3.2: Bin, what is compared.
func TestCompare(t *testing.T) {
	holds := func(first int, pairs [][2]int, want string) {
		t.Helper()
		for _, p := range pairs {
			for i := range want {
				asBin(t, first+i, p[0], p[1], int(want[i]-'0'), api.NoTrap)
			}
		}
	}
	// eq ne lt_s lt_u gt_s gt_u le_s le_u ge_s ge_u
	holds(0x46, [][2]int{{0, 0}, {7, 7}, {-1, 1<<32 - 1}, {1 << 32, 0}, {1 << 31, -1 << 31}, {5, 1<<40 + 5}}, "1000001111")
	holds(0x46, [][2]int{{1, 2}, {0, 1<<31 - 1}, {1 << 31, 1<<32 - 1}, {-2, -1}, {1 << 32, 1}}, "0111001100")
	holds(0x46, [][2]int{{2, 1}, {1<<31 - 1, 0}, {1<<32 - 1, 1 << 31}, {1, 1 << 32}}, "0100110011")
	holds(0x46, [][2]int{{-1, 1}, {1<<32 - 1, 0}, {1 << 31, 1<<31 - 1}, {-1 << 31, 0}}, "0110011001")
	holds(0x46, [][2]int{{1, -1}, {0, 1<<32 - 1}, {1<<31 - 1, 1 << 31}}, "0101100110")
	holds(0x51, [][2]int{{0, 0}, {-1, -1}, {1 << 40, 1 << 40}, {math.MinInt, math.MinInt}}, "1000001111")
	holds(0x51, [][2]int{{1, 2}, {0, 1 << 32}, {1<<31 - 1, 1 << 31}, {math.MinInt, -1}, {5, 1<<40 + 5}}, "0111001100")
	holds(0x51, [][2]int{{2, 1}, {1 << 32, 0}, {1<<32 - 1, 0}, {-1, math.MinInt}}, "0100110011")
	holds(0x51, [][2]int{{-1, 1}, {-1, 1<<32 - 1}, {math.MinInt, math.MaxInt}}, "0110011001")
	holds(0x51, [][2]int{{1, -1}, {math.MaxInt, math.MinInt}}, "0101100110")
}

// 3.2: Bin, by numbers.
func TestBin(t *testing.T) {
	for _, x := range [][4]int{
		{0x6A, 1<<32 - 1, 2, 1}, {0x6A, 3, 4, 7}, {0x6A, 1 << 32, 1 << 33, 0}, {0x6A, 1<<31 - 1, 1, 1 << 31},
		{0x6B, 3, 4, 1<<32 - 1}, {0x6B, 4, 3, 1}, {0x6B, 0, 1 << 31, 1 << 31},
		{0x6C, 7, 6, 42}, {0x6C, -1, -1, 1}, {0x6C, 1 << 16, 1 << 16, 0}, {0x6C, 1<<32 - 1, 2, 1<<32 - 2}, {0x6C, 0x12345678, 0x9ABCDEF0, 0x242D2080},
		{0x71, 12, 10, 8}, {0x71, -1, 1 << 40, 0}, {0x72, 12, 10, 14}, {0x72, -1, 0, 1<<32 - 1}, {0x73, 12, 10, 6}, {0x73, -1, 1, 1<<32 - 2},
		{0x74, 1, 31, 1 << 31}, {0x74, 1, 32, 1}, {0x74, 1, 33, 2}, {0x74, 3, 31, 1 << 31}, {0x74, 1, -1, 1 << 31}, {0x74, 1, 0, 1}, {0x74, 1, 63, 1 << 31}, {0x74, 1, 64, 1},
		{0x75, 1 << 31, 31, 1<<32 - 1}, {0x75, 1 << 31, 1, 3 << 30}, {0x75, 1 << 31, 32, 1 << 31}, {0x75, 1<<31 - 1, 30, 1}, {0x75, 1 << 32, 1, 0}, {0x75, -8, 33, 1<<32 - 4},
		{0x76, 1 << 31, 31, 1}, {0x76, 1 << 31, 1, 1 << 30}, {0x76, -1, 0, 1<<32 - 1}, {0x76, -1, 32, 1<<32 - 1}, {0x76, -1, -1, 1}, {0x76, 1 << 32, 1, 0},
		{0x77, 1 << 31, 1, 1}, {0x77, 0x12345678, 8, 0x34567812}, {0x77, 1, 32, 1}, {0x77, 1, -1, 1 << 31}, {0x77, 1<<32 + 1, 31, 1 << 31},
		{0x78, 1, 1, 1 << 31}, {0x78, 0x12345678, 8, 0x78123456}, {0x78, 1, 32, 1}, {0x78, 1, -1, 2}, {0x78, 1 << 32, 1, 0},
		{0x7C, math.MaxInt, 1, math.MinInt}, {0x7C, 1<<32 - 1, 1, 1 << 32}, {0x7D, math.MinInt, 1, math.MaxInt}, {0x7D, 0, 1, -1}, {0x7E, 1 << 32, 1 << 32, 0}, {0x7E, -3, 5, -15},
		{0x83, -1, 1 << 40, 1 << 40}, {0x84, 1 << 40, 1, 1<<40 + 1}, {0x85, -1, 1, -2},
		{0x86, 1, 63, math.MinInt}, {0x86, 1, 64, 1}, {0x86, 1, 65, 2}, {0x86, 1, 32, 1 << 32}, {0x86, 1, -1, math.MinInt},
		{0x87, math.MinInt, 63, -1}, {0x87, math.MinInt, 64, math.MinInt}, {0x87, -8, 1, -4}, {0x87, math.MaxInt, 62, 1}, {0x87, -1 << 40, 33, -1 << 7},
		{0x88, math.MinInt, 63, 1}, {0x88, -1, 1, math.MaxInt}, {0x88, -1, 0, -1}, {0x88, -1, -1, 1}, {0x88, 1 << 40, 32, 1 << 8},
		{0x89, math.MinInt, 1, 1}, {0x89, 1, 64, 1}, {0x89, 1, 32, 1 << 32}, {0x89, 1, -1, math.MinInt},
		{0x8A, 1, 1, math.MinInt}, {0x8A, 1, 65, math.MinInt}, {0x8A, 1, -1, 2}, {0x8A, 1 << 32, 32, 1},
	} {
		asBin(t, x[0], x[1], x[2], x[3], api.NoTrap)
	}
}

// 3.2: Bin, of quotients and what is left of them.
func TestQuotients(t *testing.T) {
	for _, x := range []struct {
		code, a, b, want int
		trap             api.Trap
	}{
		{0x6D, 7, 2, 3, 0}, {0x6D, -7, 2, 1<<32 - 3, 0}, {0x6D, 7, -2, 1<<32 - 3, 0}, {0x6D, -7, -2, 3, 0}, {0x6D, 1 << 31, 1, 1 << 31, 0}, {0x6D, 1<<31 + 1, -1, 1<<31 - 1, 0},
		{0x6D, 1 << 31, 1<<32 - 1, 0, api.TrapOverflow}, {0x6D, -1 << 31, -1, 0, api.TrapOverflow}, {0x6D, 1<<40 + 1<<31, -1, 0, api.TrapOverflow},
		{0x6D, 1, 0, 0, api.TrapDivide}, {0x6D, 0, 0, 0, api.TrapDivide}, {0x6D, 1 << 31, 0, 0, api.TrapDivide}, {0x6D, 1, 1 << 32, 0, api.TrapDivide},
		{0x6E, 7, 2, 3, 0}, {0x6E, -1, 2, 1<<31 - 1, 0}, {0x6E, 1 << 31, 1<<32 - 1, 0, 0}, {0x6E, -1, -1, 1, 0}, {0x6E, 1<<32 + 9, 3, 3, 0}, {0x6E, -2, 1 << 31, 1, 0}, {0x6E, -1, 1, 1<<32 - 1, 0},
		{0x6E, 1, 0, 0, api.TrapDivide}, {0x6E, 1, -1 << 32, 0, api.TrapDivide},
		{0x6F, 7, 2, 1, 0}, {0x6F, -7, 2, 1<<32 - 1, 0}, {0x6F, 7, -2, 1, 0}, {0x6F, -7, -2, 1<<32 - 1, 0}, {0x6F, 1 << 31, -1, 0, 0}, {0x6F, 5, -1, 0, 0},
		{0x6F, 1 << 31, 0, 0, api.TrapDivide}, {0x6F, 1, 1 << 32, 0, api.TrapDivide},
		{0x70, 7, 2, 1, 0}, {0x70, -1, 10, 5, 0}, {0x70, 1 << 31, -1, 1 << 31, 0}, {0x70, 7, -2, 7, 0}, {0x70, 1, 0, 0, api.TrapDivide},
		{0x7F, 7, 2, 3, 0}, {0x7F, -7, 2, -3, 0}, {0x7F, 7, -2, -3, 0}, {0x7F, -7, -2, 3, 0}, {0x7F, math.MinInt, 1, math.MinInt, 0}, {0x7F, math.MinInt + 1, -1, math.MaxInt, 0},
		{0x7F, -1 << 31, -1, 1 << 31, 0}, {0x7F, 1 << 40, 1 << 32, 1 << 8, 0},
		{0x7F, math.MinInt, -1, 0, api.TrapOverflow}, {0x7F, 1, 0, 0, api.TrapDivide}, {0x7F, math.MinInt, 0, 0, api.TrapDivide},
		{0x80, 7, 2, 3, 0}, {0x80, -1, 2, math.MaxInt, 0}, {0x80, math.MinInt, -1, 0, 0}, {0x80, -1, -1, 1, 0}, {0x80, -2, math.MinInt, 1, 0}, {0x80, -1, 1, -1, 0}, {0x80, 1, 0, 0, api.TrapDivide},
		{0x81, 7, 2, 1, 0}, {0x81, -7, 2, -1, 0}, {0x81, 7, -2, 1, 0}, {0x81, -7, -2, -1, 0}, {0x81, math.MinInt, -1, 0, 0}, {0x81, 1<<40 + 3, 1 << 32, 3, 0}, {0x81, 1, 0, 0, api.TrapDivide},
		{0x82, 7, 2, 1, 0}, {0x82, -1, 10, 5, 0}, {0x82, math.MinInt, -1, math.MinInt, 0}, {0x82, 7, -2, 7, 0}, {0x82, math.MinInt, 0, 0, api.TrapDivide},
	} {
		asBin(t, x.code, x.a, x.b, x.want, x.trap)
	}
}

// 3.2: Bin, of each instruction and each two of the edges.
func TestBinAll(t *testing.T) {
	l := edges()
	for _, o := range ofTwo() {
		for _, a := range l {
			for _, b := range l {
				want, trap := wantBin(o, a, b)
				asBin(t, o.code, a, b, want, trap)
			}
		}
	}
}

// 3.2: what shifts and turns, by each number of bits.
func TestTurns(t *testing.T) {
	for _, o := range ofTwo() {
		switch o.name {
		case "shl", "shr_s", "shr_u", "rotl", "rotr":
			for b := -130; b <= 130; b++ {
				for _, a := range []int{1, -1, 1 << 31, math.MinInt, 0x0123456789ABCDEF, -0x0123456789ABCDEF, 0xC0000001} {
					want, trap := wantBin(o, a, b)
					asBin(t, o.code, a, b, want, trap)
				}
			}
		}
	}
}

// 3.2: an instruction of two is none of one, and the other way round; the others are neither.
func TestNone(t *testing.T) {
	notUn, notBin := none(), none()
	for _, o := range ofOne() {
		notBin = append(notBin, o.code)
	}
	for _, o := range ofTwo() {
		notUn = append(notUn, o.code)
	}
	for _, n := range []int{0, 1, -1, 1 << 31, math.MinInt, math.MaxInt} {
		for _, code := range notUn {
			if got, ok := Un(code, n); got != 0 || ok {
				t.Errorf("Un(%x, %x): %x %v", code, n, got, ok)
			}
		}
		for _, code := range notBin {
			if got, trap, ok := Bin(code, n, 0); got != 0 || trap != api.NoTrap || ok {
				t.Errorf("Bin(%x, %x, 0): %x %d %v", code, n, got, trap, ok)
			}
			if got, trap, ok := Bin(code, n, -1); got != 0 || trap != api.NoTrap || ok {
				t.Errorf("Bin(%x, %x, -1): %x %d %v", code, n, got, trap, ok)
			}
		}
	}
}

// 3.3: what is left is a number of its type, whatever was handed in; it hangs on the lowest bits alone.
func TestLeft(t *testing.T) {
	isOf := func(code, n int) {
		t.Helper()
		if _, _, left := Sig(code); left == api.I32 && (n < 0 || n > 1<<32-1) {
			t.Errorf("%x left %x", code, n)
		}
	}
	l := edges()
	for _, o := range ofOne() {
		for _, a := range l {
			n, _ := Un(o.code, a)
			isOf(o.code, n)
			if o.bits == 32 {
				asUn(t, o.code, a^-1<<32, n)
				asUn(t, o.code, a&(1<<32-1), n)
			}
		}
	}
	for _, o := range ofTwo() {
		for _, a := range l {
			for _, b := range l {
				n, trap, _ := Bin(o.code, a, b)
				isOf(o.code, n)
				if o.bits == 32 {
					asBin(t, o.code, a^-1<<32, b, n, trap)
					asBin(t, o.code, a, b^-1<<32, n, trap)
				}
			}
		}
	}
}

// P1: every call ends, and none panics; with a trap, and with false, all else is zero.
func TestNothingElse(t *testing.T) {
	codes := none()
	for code := range 0x100 {
		codes = append(codes, code)
	}
	for _, code := range codes {
		takes, _, _ := Sig(code)
		for _, a := range []int{0, 1, -1, 1 << 31, math.MinInt, math.MaxInt} {
			if n, ok := Un(code, a); ok != (takes == 1) || !ok && n != 0 {
				t.Errorf("Un(%x, %x): %x %v", code, a, n, ok)
			}
			for _, b := range []int{0, 1, -1, 1 << 31, 1 << 32, math.MinInt, math.MaxInt} {
				n, trap, ok := Bin(code, a, b)
				if ok != (takes == 2) || !ok && (n != 0 || trap != api.NoTrap) || trap != api.NoTrap && n != 0 {
					t.Errorf("Bin(%x, %x, %x): %x %d %v", code, a, b, n, trap, ok)
				}
			}
		}
		U32(code)
		S32(code)
	}
}
