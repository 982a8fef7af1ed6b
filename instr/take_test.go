package instr

import (
	"math"
	"slices"
	"testing"

	"scarf/api"
)

// end is the byte behind instructions.
const end = "\x0b"

// 5.3: what is laid by numbers is taken, alone, behind others, within blocks, and what is behind it is told.
func TestTake(t *testing.T) {
	for _, x := range byNumbers() {
		if x.s == "-" {
			continue
		}
		for _, rest := range []string{"", end, "\x05", "\xff\x00z"} {
			taken(t, x.s+end+rest, []api.Instr{x.in}, rest)
			taken(t, "\x1a"+x.s+"\x01"+end+rest, []api.Instr{{Op: 0x1A}, x.in, {Op: 0x01}}, rest)
			taken(t, "\x02\x40"+x.s+end+end+rest, []api.Instr{{Op: 0x02, A: -64, L: []api.Instr{x.in}}}, rest)
			taken(t, "\x04\x40\x00\x05"+x.s+end+end+rest, []api.Instr{{Op: 0x04, A: -64, L: []api.Instr{{Op: 0x00}}, E: []api.Instr{x.in}}}, rest)
		}
	}
	taken(t, end, nil, "")
	taken(t, end+end+end, nil, end+end)
	taken(t, "\x01\x01"+end+"\x01"+end, nops(2), "\x01"+end)
}

// taken holds Take against what it is to tell.
func taken(t *testing.T, s string, want []api.Instr, rest string) {
	t.Helper()
	if l, r, e := Take(s); !same(l, want) || r != rest || e != api.OK {
		t.Errorf("Take(%x): %v %x %d, want %v %x", s, l, r, e, want, rest)
	}
}

// 5.3: bytes that are not laid so, but taken: numbers of more bytes than they need, an alignment with the bit 64 and the memory 0, an Else with nothing behind it.
func TestTakeLoose(t *testing.T) {
	const most = 1<<32 - 1
	for _, x := range []laid{
		{api.Instr{Op: 0x0C, A: 0}, "\x0c\x80\x80\x80\x80\x00"}, {api.Instr{Op: 0x20, A: 5}, "\x20\x85\x00"}, {api.Instr{Op: 0x10, A: most}, "\x10\xff\xff\xff\xff\x0f"},
		{api.Instr{Op: 0x0E, N: []int{1, 2}, A: 3}, "\x0e\x82\x00\x81\x80\x00\x02\x83\x00"}, {api.Instr{Op: 0x0E}, "\x0e\x80\x00\x80\x00"},
		{api.Instr{Op: 0x11, A: 1, M: 2}, "\x11\x81\x00\x82\x80\x80\x00"},
		{api.Instr{Op: 0x1C, A: 0x7F}, "\x1c\x81\x80\x80\x80\x00\x7f"},
		{api.Instr{Op: 0x28, B: 2, A: 4}, "\x28\x82\x00\x84\x00"}, {api.Instr{Op: 0x28, B: 2, M: 1, A: 4}, "\x28\xc2\x00\x81\x00\x84\x80\x00"},
		{api.Instr{Op: 0x28, A: 4}, "\x28\x40\x00\x04"}, {api.Instr{Op: 0x28, B: 63, A: 4}, "\x28\x7f\x80\x00\x04"}, {api.Instr{Op: 0x36, B: 2, A: 0}, "\x36\x42\x80\x80\x80\x80\x00\x00"}, {api.Instr{Op: 0x36, B: 63, M: 5, A: 1}, "\x36\xff\x00\x05\x01"},
		{api.Instr{Op: 0x3F, M: 0}, "\x3f\x80\x00"}, {api.Instr{Op: 0xFC0B, M: 1}, "\xfc\x8b\x00\x81\x00"}, {api.Instr{Op: 0xFC0A, M: 1, A: 2}, "\xfc\x8a\x80\x80\x80\x00\x81\x00\x82\x00"}, {api.Instr{Op: 0xFC10}, "\xfc\x90\x80\x00\x00"},
		{api.Instr{Op: 0x41, A: -1}, "\x41\xff\x7f"}, {api.Instr{Op: 0x41, A: 0}, "\x41\x80\x80\x80\x80\x00"}, {api.Instr{Op: 0x41, A: -1}, "\x41\xff\xff\xff\xff\x7f"}, {api.Instr{Op: 0x42, A: 0}, "\x42\x80\x80\x80\x80\x80\x80\x80\x80\x80\x00"}, {api.Instr{Op: 0x42, A: -1}, "\x42\xff\xff\xff\xff\xff\xff\xff\xff\xff\x7f"},
		{api.Instr{Op: 0x02, A: 0}, "\x02\x80\x00" + end}, {api.Instr{Op: 0x02, A: 5}, "\x02\x85\x80\x80\x80\x00" + end}, {api.Instr{Op: 0x02, A: 127}, "\x02\xff\x80\x00" + end}, {api.Instr{Op: 0x02, A: 64}, "\x02\xc0\x80\x00" + end},
		{api.Instr{Op: 0x04, A: -64}, "\x04\x40\x05" + end}, {api.Instr{Op: 0x04, A: -64, L: nops(1)}, "\x04\x40\x01\x05" + end},
	} {
		taken(t, x.s+end+"z", []api.Instr{x.in}, "z")
		taken(t, "\x01"+x.s+"\x01"+end, []api.Instr{{Op: 0x01}, x.in, {Op: 0x01}}, "")
	}
}

// fault is bytes and the first fault that they have.
type fault struct {
	s string
	e api.Errno
}

// faults are each by itself: what is ahead of it is sound, and the bytes end with it.
func faults() []fault {
	return []fault{
		// The bytes are at an end.
		{"", api.ErrForm}, {"\x02", api.ErrForm}, {"\x02\x40", api.ErrForm}, {"\x0c", api.ErrForm}, {"\x0e", api.ErrForm}, {"\x0e\x01", api.ErrForm}, {"\x0e\x01\x00", api.ErrForm}, {"\x11\x00", api.ErrForm}, {"\x1c", api.ErrForm}, {"\x1c\x01", api.ErrForm},
		{"\x28", api.ErrForm}, {"\x28\x00", api.ErrForm}, {"\x28\x40\x00", api.ErrForm}, {"\x3f", api.ErrForm}, {"\xfc", api.ErrForm}, {"\xfc\x0b", api.ErrForm}, {"\xfc\x0a\x00", api.ErrForm}, {"\x41", api.ErrForm}, {"\x42", api.ErrForm}, {"\xd0", api.ErrForm},
		{"\x04\x40\x05", api.ErrForm}, {"\x04\x40\x05\x01", api.ErrForm}, {"\x02\x40\x0b", api.ErrForm},
		// No numbers.
		{"\x0c\x80\x80\x80\x80\x10", api.ErrForm}, {"\x0c\x80\x80\x80\x80\x80\x00", api.ErrForm}, {"\x0c\xff\xff\xff\xff\x1f", api.ErrForm}, {"\xfc\x80\x80\x80\x80\x10", api.ErrForm}, {"\x11\x00\x80\x80\x80\x80\x10", api.ErrForm},
		{"\x41\x80\x80\x80\x80\x08", api.ErrForm}, {"\x41\xff\xff\xff\xff\x77", api.ErrForm}, {"\x41\x80\x80\x80\x80\x80\x00", api.ErrForm}, {"\x42\xff\xff\xff\xff\xff\xff\xff\xff\xff\x01", api.ErrForm}, {"\x42\x80\x80\x80\x80\x80\x80\x80\x80\x80\x80\x00", api.ErrForm},
		{"\x0e\x80\x80\x80\x80\x10", api.ErrForm}, {"\x0e\x01\xff\xff\xff\xff\x1f", api.ErrForm}, {"\x0e\x00\xff\xff\xff\xff\x1f", api.ErrForm}, {"\x28\x00\xff\xff\xff\xff\x1f", api.ErrForm}, {"\x28\x40\xff\xff\xff\xff\x1f", api.ErrForm},
		// Of none of the kinds that may be there.
		{"\x1c\x00", api.ErrForm}, {"\x1c\x02", api.ErrForm}, {"\x1c\x81\x01", api.ErrForm}, {"\x28\x80\x01", api.ErrForm}, {"\x28\xff\x01", api.ErrForm}, {"\x28\xc2\x01", api.ErrForm}, {"\x28\xff\xff\xff\xff\x0f", api.ErrForm},
		{"\x02\xff\x7f", api.ErrForm}, {"\x02\xc0\x7f", api.ErrForm}, {"\x02\x80\x40", api.ErrForm}, {"\x02\x80\x80\x80\x80\x70", api.ErrForm}, {"\x02\x80\x80\x80\x80\x10", api.ErrForm}, {"\x02\x80\x80\x80\x80\x80\x00", api.ErrForm},
		{"\x02\x41", api.ErrForm}, {"\x02\x6f", api.ErrForm}, {"\x02\x71", api.ErrForm}, {"\x02\x7a", api.ErrForm},
		// Shape's.
		{"\x43", api.ErrFloat}, {"\x2a", api.ErrFloat}, {"\x5b", api.ErrFloat}, {"\xa8", api.ErrFloat}, {"\xfc\x00", api.ErrFloat}, {"\xfc\x87\x00", api.ErrFloat}, {"\xfd", api.ErrSimd},
		{"\x06", api.ErrOp}, {"\x12", api.ErrOp}, {"\x27", api.ErrOp}, {"\xff", api.ErrOp}, {"\xfc\x08", api.ErrOp}, {"\xfc\x12", api.ErrOp}, {"\xfc\xff\xff\xff\xff\x0f", api.ErrOp}, {"\xfc\x80\x02", api.ErrOp},
		// Type's.
		{"\x02\x7d", api.ErrFloat}, {"\x03\x7c", api.ErrFloat}, {"\x04\x7b", api.ErrSimd}, {"\x1c\x01\x7d", api.ErrFloat}, {"\x1c\x01\x7c", api.ErrFloat}, {"\x1c\x01\x7b", api.ErrSimd}, {"\x1c\x01\x40", api.ErrForm}, {"\x1c\x01\xff", api.ErrForm},
		{"\xd0\x7d", api.ErrFloat}, {"\xd0\x7c", api.ErrFloat}, {"\xd0\x7b", api.ErrSimd}, {"\xd0\x6f", api.ErrForm}, {"\xd0\x00", api.ErrForm}, {"\xd0\x7f", api.ErrForm}, {"\xd0\x7e", api.ErrForm},
		// Labels.
		{"\x0e\xe9\x07", api.ErrFull}, {"\x0e\xff\xff\xff\xff\x0f", api.ErrFull},
		// Else.
		{"\x05", api.ErrForm}, {"\x01\x05", api.ErrForm}, {"\x02\x40\x05", api.ErrForm}, {"\x03\x40\x01\x05", api.ErrForm}, {"\x04\x40\x05\x05", api.ErrForm}, {"\x04\x40\x05\x01\x05", api.ErrForm}, {"\x04\x40\x02\x40\x05", api.ErrForm}, {"\x04\x40\x0b\x05", api.ErrForm}, {"\x04\x40\x05\x03\x40\x05", api.ErrForm},
	}
}

// 5.3: each fault is the first one, whatever is ahead of it that is sound, and whatever is behind it.
func TestTakeFaults(t *testing.T) {
	heads := []string{"", "\x01", "\x02\x40\x0b", "\x02\x40", "\x04\x40", "\x04\x40\x01\x05", "\x03\x05\x41\x7f", "\x04\x7f\x04\x40\x05\x0b\x05"}
	for _, x := range faults() {
		for i, head := range heads {
			refused(t, head+x.s, x.e)
			// An Else may end an If's first part.
			if i == 4 && x.s == "\x05" {
				continue
			}
			for _, y := range faults() {
				// Bytes that are at an end, or numbers that have none, go on with what is behind them.
				if x.e != api.ErrForm {
					refused(t, head+x.s+y.s, x.e)
				}
				if slices.Contains([]string{"\x05", "\x1c\x00", "\x1c\x02", "\x02\x41", "\xd0\x7f", "\x28\x80\x01", "\x02\xff\x7f"}, x.s) {
					refused(t, head+x.s+y.s+end, x.e)
				}
			}
		}
	}
}

// refused asks for an error, with nothing beside it.
func refused(t *testing.T, s string, e api.Errno) {
	t.Helper()
	if l, rest, ge := Take(s); len(l) != 0 || rest != "" || ge != e {
		t.Errorf("Take(%x): %v %x %d, want %d", s, l, rest, ge, e)
	}
}

// 5.3: within one instruction the first fault is told, and an opcode's stands ahead of its numbers'.
func TestTakeFirst(t *testing.T) {
	for _, x := range []fault{
		{"\x1c\x00\x7d", api.ErrForm}, {"\x1c\x02\x7d\x7d" + end, api.ErrForm}, {"\x1c\x80\x80\x80\x80\x10\x7b", api.ErrForm}, {"\x1c\x01\x7d\xfd", api.ErrFloat},
		{"\x0e\xe9\x07\x80\x80\x80\x80\x10", api.ErrFull}, {"\x0e\x01\x80\x80\x80\x80\x10\xfd", api.ErrForm}, {"\x0e\xe8\x07\xfd", api.ErrForm}, {"\x0e\x01\x00\x00\xfd", api.ErrSimd},
		{"\x43\x80\x80\x80\x80\x80", api.ErrFloat}, {"\xfd\x80\x80\x80\x80\x80", api.ErrSimd}, {"\xfc\x80\x80\x80\x80\x80\x43", api.ErrForm}, {"\xfc\x07\xfd", api.ErrFloat}, {"\xfc\x09\xfd", api.ErrOp},
		{"\x02\x7d\x43", api.ErrFloat}, {"\x02\x7b\x43", api.ErrSimd}, {"\x02\x41\x43", api.ErrForm}, {"\x02\x40\x43\x7d", api.ErrFloat}, {"\x02\x40\xfd\x43", api.ErrSimd}, {"\x02\x40\x05\x43", api.ErrForm}, {"\x02\x40\x0b\x05\x43", api.ErrForm},
		{"\x04\x40\x43\x05\x05", api.ErrFloat}, {"\x04\x40\x05\x43\x05", api.ErrFloat}, {"\x04\x40\x05\x05\x43", api.ErrForm}, {"\x04\x40\x05\x0b\xfd", api.ErrSimd},
		{"\x28\x80\x01\x43", api.ErrForm}, {"\x28\x40\x00\x00\x43", api.ErrFloat}, {"\x28\x00\x00\x43", api.ErrFloat}, {"\xd0\x7b\x43", api.ErrSimd}, {"\xd0\x7f\x43", api.ErrForm}, {"\xd0\x70\x43", api.ErrFloat},
		{"\x0b\x43", api.OK}, {"\x02\x40\x0b\x0b\xfd", api.OK},
	} {
		if x.e == api.OK {
			if _, _, e := Take(x.s); e != api.OK {
				t.Errorf("Take(%x): %d", x.s, e)
			}
			continue
		}
		refused(t, x.s, x.e)
	}
}

// 5.3: MaxInstrs instructions and one more: behind its numbers, ahead of what is within it.
func TestTakeMaxInstrs(t *testing.T) {
	full, nested := repeat("\x01", 8192), repeat("\x02\x40", 32)+repeat("\x01", 8160)
	within := "\x04\x40" + repeat("\x01", 4000) + "\x05" + repeat("\x01", 4191) + end
	for _, s := range []string{full, repeat("\x01", 8191) + "\x04\x40\x05" + end, repeat("\x02\x40"+end, 8192), within, repeat("\x01", 8191) + "\x0e\x00\x00"} {
		if l, rest, e := Take(s + end + "\x01z"); total(l) != 8192 || rest != "\x01z" || e != api.OK {
			t.Errorf("%d %x %d", total(l), rest, e)
		}
		for _, x := range []fault{
			{"\x01", api.ErrFull}, {"\x01\x43", api.ErrFull}, {"\x02\x40", api.ErrFull}, {"\x04\x40\x43", api.ErrFull}, {"\x04\x40\x05\x05", api.ErrFull}, {"\x0c\x00", api.ErrFull}, {"\x0e\x01\x00\x00", api.ErrFull}, {"\xfc\x0a\x00\x00", api.ErrFull}, {"\x41\x00", api.ErrFull}, {"\xd0\x70", api.ErrFull}, {"\x28\x40\x00\x00", api.ErrFull},
			{"", api.ErrForm}, {"\x05", api.ErrForm}, {"\x43", api.ErrFloat}, {"\xfd", api.ErrSimd}, {"\x06", api.ErrOp}, {"\xfc\x08", api.ErrOp}, {"\xfc", api.ErrForm}, {"\x02", api.ErrForm}, {"\x02\x7d", api.ErrFloat}, {"\x02\x7b", api.ErrSimd}, {"\x02\xff\x7f", api.ErrForm},
			{"\x0c", api.ErrForm}, {"\x0c\x80\x80\x80\x80\x10", api.ErrForm}, {"\x0e\x01\x00", api.ErrForm}, {"\x1c\x02\x7f", api.ErrForm}, {"\x1c\x01\x7d", api.ErrFloat}, {"\xd0\x7f", api.ErrForm}, {"\xd0\x7c", api.ErrFloat}, {"\x28\x80\x01\x00", api.ErrForm}, {"\x28\x40\x00", api.ErrForm}, {"\xfc\x0a\x00", api.ErrForm}, {"\x41\x80\x80\x80\x80\x08", api.ErrForm},
		} {
			refused(t, s+x.s, x.e)
		}
		refused(t, s+"\x01"+end, api.ErrFull)
	}
	if l, rest, e := Take(nested + repeat(end, 33)); total(l) != 8192 || rest != "" || e != api.OK {
		t.Errorf("%d %x %d", total(l), rest, e)
	}
	refused(t, nested+"\x01"+repeat(end, 33), api.ErrFull)
	refused(t, nested+repeat(end, 32)+"\x01"+end, api.ErrFull)
}

// 5.3: MaxNest blocks in one another and one more: behind its type, ahead of what is within it.
func TestTakeMaxNest(t *testing.T) {
	for _, open := range []string{"\x02\x40", "\x03\x7f", "\x04\x05", "\x04\x40\x05", "\x04\x40\x01\x05"} {
		s := repeat(open, 32)
		if l, rest, e := Take(s + "\x41\x00" + repeat(end, 33) + "q"); rest != "q" || e != api.OK || len(l) != 1 {
			t.Errorf("%x: %x %d", open, rest, e)
		}
		// A block that is closed is around nothing any more.
		if _, rest, e := Take(s + end + open + repeat(end, 33) + "q"); rest != "q" || e != api.OK {
			t.Errorf("%x: %x %d", open, rest, e)
		}
		for _, x := range []fault{
			{"\x02\x40", api.ErrFull}, {"\x03\x00", api.ErrFull}, {"\x04\x7f\x43", api.ErrFull}, {"\x04\x40\x05\x05", api.ErrFull}, {"\x02\x40" + repeat(end, 34), api.ErrFull}, {"\x02\x85\x00", api.ErrFull}, {repeat("\x01", 100) + "\x02\x40", api.ErrFull},
			{"\x02", api.ErrForm}, {"\x02\x7d", api.ErrFloat}, {"\x03\x7b", api.ErrSimd}, {"\x04\x41", api.ErrForm}, {"\x04\xff\x7f", api.ErrForm}, {"\x02\x80\x80\x80\x80\x10", api.ErrForm}, {"\x43", api.ErrFloat}, {repeat(end, 32), api.ErrForm},
		} {
			refused(t, s+x.s, x.e)
		}
	}
}

// 5.3: bytes that are cut off at each place are at an end.
func TestTakeCut(t *testing.T) {
	l := append(some(), nest(4, some())...)
	s, e := Put(l)
	if e != api.OK {
		t.Fatal(e)
	}
	for i := range len(s) {
		refused(t, s[:i], api.ErrForm)
	}
	taken(t, s, l, "")
	taken(t, s+s, l, s)
}

// 5.3: all beginnings of two bytes, and of three behind FC, with what may come behind them, by the chapter's words.
func TestTakeAll(t *testing.T) {
	b := newBook()
	tails := []string{"", end, end + end + "z", "\x00" + end, "\x00\x00" + end + end, "\x01\x70" + end, "\x7f\x05" + end + end, "\x05\x05" + end, "\x40" + end + end, "\x80\x00\x80\x00" + end, "\xff\xff\xff\xff\x0f\x00" + end, "\xff\xff\xff\xff\xff\xff\xff\xff\xff\x7f" + end, "\x70\x43" + end, "\x7d\xfd"}
	for c := range 256 {
		takes(t, b, string([]byte{byte(c)}))
		for d := range 256 {
			for _, tail := range tails {
				takes(t, b, string([]byte{byte(c), byte(d)})+tail)
				takes(t, b, string([]byte{0xFC, byte(c), byte(d)})+tail)
			}
		}
	}
}

// 5.3, 5.4: bytes that were laid, with one of them changed, left out or put in between, by the chapter's words; what is read is laid, and read again.
func TestTakeChanged(t *testing.T) {
	b, d, ops, numbers := newBook(), dice(5), opcodes(), edges()
	values := []byte{0x00, 0x01, 0x02, 0x03, 0x04, 0x05, 0x0B, 0x0E, 0x1C, 0x28, 0x3F, 0x40, 0x41, 0x43, 0x63, 0x64, 0x70, 0x7B, 0x7D, 0x7F, 0x80, 0x87, 0xD0, 0xFC, 0xFD, 0xFF}
	for range 300 {
		s, e := Put(d.instrs(b, ops, numbers, 6, 0))
		if e != api.OK {
			t.Fatal(e)
		}
		for range 60 {
			i, v := d.throw(len(s)), string([]byte{pick(&d, values)})
			for _, changed := range []string{s[:i] + v + s[i+1:], s[:i] + s[i+1:], s[:i] + v + s[i:]} {
				takes(t, b, changed)
				again(t, changed)
			}
		}
	}
}

// again asks whether what is read is laid, and read again as the same.
func again(t *testing.T, s string) {
	t.Helper()
	l, _, e := Take(s)
	if e != api.OK {
		return
	}
	n, ok := Count(l)
	laid, e := Put(l)
	if !ok || n != total(l) || e != api.OK {
		t.Fatalf("%x: read, and not laid: %d %v %d", s, n, ok, e)
	}
	taken(t, laid+"z", l, "z")
}

// 5.4: what is laid is read as it was.
func TestRound(t *testing.T) {
	b, d, ops, numbers := newBook(), dice(4), opcodes(), edges()
	for i := range 2000 {
		l := d.instrs(b, ops, numbers, 3+i%20, 0)
		s, e := Put(l)
		if n, ok := Count(l); e != api.OK || !ok || n != total(l) {
			t.Fatalf("%v: %d, %d %v", l, e, n, ok)
		}
		taken(t, s, l, "")
		taken(t, s+"\x05", l, "\x05")
		takes(t, b, s+s)
	}
	for _, in := range some() {
		s, e := Put([]api.Instr{in})
		if e != api.OK {
			t.Fatal(in, e)
		}
		taken(t, s, []api.Instr{in}, "")
	}
	most := slices.Repeat([]api.Instr{{Op: 0x0E, N: slices.Repeat([]int{1<<32 - 1}, 1000), A: 1<<32 - 1}}, 100)
	s, _ := Put(most)
	taken(t, s, most, "")
}

// P1, R2: nothing that is handed in makes a call panic; with an error all else is zero.
func TestCalm(t *testing.T) {
	book, d := newBook(), dice(1)
	for range 20000 {
		b := make([]byte, d.throw(40))
		for i := range b {
			b[i] = byte(d.throw(256))
			if d.throw(3) > 0 {
				b[i] = byte(d.throw(16))
			}
		}
		if l, rest, e := Take(string(b)); e != api.OK && (len(l) > 0 || rest != "") {
			t.Errorf("Take(%x): %v %x %d", b, l, rest, e)
		}
		takes(t, book, string(b))
		again(t, string(b))
	}
	numbers := edges()
	for range 20000 {
		in := api.Instr{Op: d.throw(256), A: pick(&d, numbers), B: pick(&d, numbers), M: pick(&d, numbers), N: []int{pick(&d, numbers)}}
		in.L = []api.Instr{{Op: pick(&d, numbers), A: d.throw(3)}}
		n, ok := Count([]api.Instr{in})
		if s, e := Put([]api.Instr{in}); ok != (e == api.OK) || !ok && (n != 0 || s != "" || e != api.ErrArg) {
			t.Errorf("%v: %d %v %x %d", in, n, ok, s, e)
		}
	}
	for _, n := range []int{math.MinInt, -1, math.MaxInt} {
		asks(t, []api.Instr{{Op: n, A: n, B: n, M: n}}, 0, false, "")
	}
}

// R4: two lists that were answered share nothing, those of one answer neither.
func TestTakeOwn(t *testing.T) {
	s := "\x0e\x02\x01\x02\x03\x0e\x02\x04\x05\x06\x04\x40\x01\x01\x05\x00\x00" + end + "\x01\x01\x01" + end
	want, _, _ := Take(s)
	want = deep(want)
	a, _, _ := Take(s)
	b, _, _ := Take(s)
	clear(a[0].N)
	clear(a[2].L)
	if !same(a[1:2], want[1:2]) || !same(a[2].E, want[2].E) || !same(a[3:], want[3:]) {
		t.Error(a)
	}
	_ = append(a[0].N, 77)
	_ = append(a[2].L, api.Instr{Op: 0x1A})
	_ = append(a[2].E, api.Instr{Op: 0x1A})
	if !same(a[1:2], want[1:2]) || !same(a[2].E, want[2].E) || !same(a[3:], want[3:]) {
		t.Error(a)
	}
	clear(a)
	if !same(b, want) {
		t.Error(b)
	}
}
