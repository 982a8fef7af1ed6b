package module

import (
	"slices"
	"strings"
	"testing"

	"scarf/api"
)

// refused asks for an error, with nothing beside it.
func refused(t *testing.T, s string, e api.Errno) {
	t.Helper()
	if m, ge := Take(s); !nothing(m) || ge != e {
		t.Errorf("Take(%.300x): %s %d, want %d", s, shown(m), ge, e)
	}
}

// takes asks whether Take tells of bytes what the chapter's words do.
func takes(t *testing.T, s string) {
	t.Helper()
	want, we := plainTake(s)
	if m, e := Take(s); !same(m, want) || e != we {
		t.Fatalf("Take(%.300x): %s %d, want %s %d", s, shown(m), e, shown(want), we)
	}
}

// again asks whether what is read is laid, and read again as the same.
func again(t *testing.T, s string) {
	t.Helper()
	m, e := Take(s)
	if e != api.OK {
		return
	}
	laid, e := Put(m)
	if e != api.OK || len(laid) > len(s) {
		t.Fatalf("%.300x: read, and not laid: %d", s, e)
	}
	reads(t, laid, m)
}

// 6.2: what is not laid so, but read.
func TestTakeLoose(t *testing.T) {
	c := api.Instr{Op: 0x41, A: 1}
	const cs = "\x41\x01\x0b"
	for _, x := range []struct {
		s    string
		want api.Module
	}{
		// Numbers of more bytes than they need.
		{"\x01\x86\x80\x00\x81\x00\x60\x80\x00\x00", typed(api.FuncType{})},
		{"\x01\x0d\x81\x80\x80\x80\x00\x60\x81\x80\x00\x7f\x80\x80\x00", typed(api.FuncType{P: i32(1)})},
		{section(2, "\x81\x00"+"\x81\x00m\x82\x80\x80\x80\x00nn\x00\x85\x80\x80\x80\x00"), imports(api.Import{Mod: "m", Name: "nn", T: 5})},
		{section(2, "\x01\x00\x00\x01\x70\x01\x81\x00\xff\xff\xff\xff\x0f"), imports(api.Import{Kind: 1, Lim: api.Limits{Min: 1, Max: most}})},
		{section(2, "\x01\x80\x00\x80\x00\x02\x00\x81\x00"), imports(api.Import{Kind: 2, Lim: api.Limits{Min: 1, Max: -1}})},
		{section(3, "\x81\x00\x85\x00") + section(10, "\x81\x00\x85\x00\x80\x80\x80\x00\x0b"), api.Module{Funcs: []int{5}, Codes: []api.Code{{}}}},
		{section(4, "\x81\x80\x00\x70\x00\x85\x00"), tabled(api.Limits{Min: 5, Max: -1})},
		{section(5, "\x81\x80\x80\x80\x00\x01\x85\x00\x84\x80\x00"), memory(api.Limits{Min: 5, Max: 4})},
		{section(6, "\x81\x00\x7f\x01\x41\x81\x00\x0b"), globe(api.Global{T: 0x7F, Mut: true, Init: c})},
		{section(7, "\x81\x00\x81\x00e\x03\x85\x00"), exports(api.Export{Name: "e", Kind: 3, I: 5})},
		{section(8, "\x85\x00"), api.Module{Start: 6}}, {"\x08\x85\x80\x80\x80\x00\xff\xff\xff\xff\x0f", api.Module{Start: most + 1}},
		{section(9, "\x81\x00\x80\x00"+cs+"\x82\x00\x83\x00\x84\x00"), elems(api.Elem{Off: c, F: []int{3, 4}})},
		{section(9, "\x81\x00\x82\x00\x85\x00"+cs+"\x80\x80\x80\x80\x00\x80\x00"), elems(api.Elem{Table: 5, Off: c})},
		{section(9, "\x01\x80\x80\x80\x80\x00"+cs+"\x00"), elems(api.Elem{Off: c})}, {section(9, "\x01\x82\x80\x80\x80\x00\x05"+cs+"\x80\x00\x00"), elems(api.Elem{Table: 5, Off: c})},
		{section(11, "\x81\x00\x80\x00"+cs+"\x81\x00b"), datas(api.Data{Off: c, B: "b"})}, {section(11, "\x01\x82\x80\x80\x80\x00\x85\x00"+cs+"\x80\x00"), datas(api.Data{Mem: 5, Off: c})},
		{section(12, "\x80\x80\x80\x80\x00"), api.Module{}},
		// The byte 2, with a table or a memory 0.
		{section(9, "\x01\x02\x00"+cs+"\x00\x01\x07"), elems(api.Elem{Off: c, F: []int{7}})}, {section(9, "\x01\x02\x80\x00"+cs+"\x00\x00"), elems(api.Elem{Off: c})},
		{section(11, "\x01\x02\x00"+cs+"\x01b"), datas(api.Data{Off: c, B: "b"})}, {section(11, "\x01\x82\x00\x80\x80\x00"+cs+"\x00"), datas(api.Data{Off: c})},
		// Empty lists.
		{"\x01\x01\x00", api.Module{}}, {"\x02\x01\x00", api.Module{}}, {"\x03\x01\x00", api.Module{}}, {"\x04\x01\x00", api.Module{}}, {"\x05\x01\x00", api.Module{}}, {"\x06\x01\x00", api.Module{}}, {"\x07\x01\x00", api.Module{}}, {"\x09\x01\x00", api.Module{}}, {"\x0a\x01\x00", api.Module{}}, {"\x0b\x01\x00", api.Module{}}, {"\x0b\x02\x80\x00", api.Module{}},
		{"\x01\x01\x00\x02\x01\x00\x03\x01\x00\x04\x01\x00\x05\x01\x00\x06\x01\x00\x07\x01\x00\x09\x01\x00\x0c\x01\x00\x0a\x01\x00\x0b\x01\x00", api.Module{}},
		// Names and what is passed over.
		{"\x00\x01\x00", api.Module{}}, {"\x00\x02\x80\x00", api.Module{}}, {section(0, "\x64"+repeat("n", 100)+repeat("\xff", 300)), api.Module{}}, {repeat("\x00\x03\x01n\x80", 50), api.Module{}}, {section(0, "\x81\x80\x80\x80\x00nabc"), api.Module{}},
		{"\x00\x01\x00\x08\x01\x00\x00\x02\x00\xff\x00\x02\x01n\x0b\x05\x01\x00" + "\x00\x0b\x00" + "\x00\x01\x00", api.Module{Start: 1, Datas: []api.Data{{}}}},
		// How many datas there are.
		{"\x0c\x01\x00", api.Module{}}, {"\x0c\x01\x01" + section(11, "\x01\x00\x00\x0b\x00"), datas(api.Data{})}, {section(9, "\x01\x00\x00\x0b\x00") + "\x0c\x01\x00" + section(10, "\x00"), elems(api.Elem{})}, {section(3, "\x01\x00") + "\x0c\x02\x81\x00" + section(10, "\x01\x02\x00\x0b") + section(11, "\x01\x00\x00\x0b\x01x"), api.Module{Funcs: []int{0}, Codes: []api.Code{{}}, Datas: []api.Data{{B: "x"}}}},
		// An If whose Else has nothing behind it, a memory 0 that is named.
		{section(6, "\x01\x7f\x00\x04\x40\x05\x0b\x0b"), globe(api.Global{T: 0x7F, Init: api.Instr{Op: 0x04, A: -64}})}, {section(6, "\x01\x7f\x00\x28\x42\x00\x03\x0b"), globe(api.Global{T: 0x7F, Init: api.Instr{Op: 0x28, A: 3, B: 2}})},
	} {
		reads(t, head+x.s, x.want)
		takes(t, head+x.s)
		again(t, head+x.s)
	}
}

// 6.2: rows of locals however they are cut, and MaxLocals of them, and one more.
func TestTakeLocals(t *testing.T) {
	for _, x := range []struct {
		rows string
		want []int
	}{
		{"\x00", nil}, {"\x80\x00", nil}, {"\x01\x00\x7f", nil}, {"\x02\x00\x7f\x80\x00\x70", nil}, {"\x01\x01\x7e", []int{0x7E}}, {"\x02\x01\x7f\x01\x7f", i32(2)}, {"\x03\x01\x7f\x00\x7e\x01\x7f", i32(2)}, {"\x81\x00\x82\x80\x00\x7f", i32(2)},
		{"\x03\x02\x7f\x01\x7e\x02\x70", []int{0x7F, 0x7F, 0x7E, 0x70, 0x70}}, {"\x01\x80\x02\x7f", i32(256)}, {"\x02\x80\x02\x7f\x00\x7e", i32(256)}, {"\x02\xff\x01\x7f\x01\x7f", i32(256)}, {"\x80\x02" + repeat("\x01\x7f", 256), i32(256)}, {"\x81\x02" + repeat("\x01\x7f", 256) + "\x00\x70", i32(256)},
		{"\xb8\x17" + repeat("\x00\x7f", 3000), nil}, {"\xb9\x17" + repeat("\x00\x7e", 3000) + "\x80\x02\x7f", i32(256)},
	} {
		s := head + section(3, "\x01\x00") + section(10, "\x01"+counted(x.rows+"\x01\x0b"))
		reads(t, s, coded(api.Code{Locals: x.want, L: []api.Instr{{Op: 0x01}}}))
		takes(t, s)
		again(t, s)
	}
	for _, x := range []struct {
		rows string
		e    api.Errno
	}{
		{"\x01\x81\x02\x7f", api.ErrFull}, {"\x02\x80\x02\x7f\x01\x7f", api.ErrFull}, {"\x03\x80\x01\x7f\x80\x01\x7e\x01\x70", api.ErrFull}, {"\x81\x02" + repeat("\x01\x7f", 257), api.ErrFull}, {"\x01\xff\xff\xff\xff\x0f\x7f", api.ErrFull}, {"\x02\x01\x7f\xff\xff\xff\xff\x0f\x7f", api.ErrFull}, {"\x01\xff\xff\xff\xff\x07\x70", api.ErrFull},
		// The type is read first, and what is behind is not.
		{"\x01\x81\x02\x7d", api.ErrFloat}, {"\x01\x81\x02\x7b", api.ErrSimd}, {"\x01\x81\x02\x40", api.ErrForm}, {"\x02\x81\x02\x7f\x00\x7d", api.ErrFull}, {"\x02\x80\x02\x7f\x01\x7c", api.ErrFloat}, {"\x02\x81\x02\x7f", api.ErrFull}, {"\xff\xff\xff\xff\x0f\x81\x02\x7f", api.ErrFull},
		{"\x01\x00\x7d", api.ErrFloat}, {"\x02\x01\x7f\x00\x7b", api.ErrSimd}, {"\x01\x01\x00", api.ErrForm}, {"\x01\x80\x80\x80\x80\x10\x7f", api.ErrForm},
	} {
		for _, behind := range []string{"", "\x01\x0b", "\x43\x0b", "\xfd\x0b"} {
			s := head + section(3, "\x01\x00") + section(10, "\x01"+counted(x.rows+behind))
			refused(t, s, x.e)
			takes(t, s)
		}
	}
	// More rows are told of than there are.
	for _, rows := range []string{"\x01", "\x02\x01\x7f", "\xff\xff\xff\xff\x0f", "\xff\xff\xff\xff\x0f\x00\x7f", "\x81\x02", "\x01\x01", "\x01\x81\x02"} {
		refused(t, head+section(3, "\x01\x00")+section(10, "\x01"+counted(rows)), api.ErrForm)
		refused(t, head+section(3, "\x01\x00")+section(10, "\x01"+counted(rows)+"\x00\x7f\x0b"), api.ErrForm)
	}
}

// fault is the content of a section, of which the first fault is told, or is at its end.
type fault struct {
	which int
	s     string
	e     api.Errno
}

// faults are contents with a fault each: whatever is behind it in the content, it is the first.
func faults() []fault {
	long, longer := "\x65"+repeat("n", 101), "\xac\x02"+repeat("n", 300)
	const c = "\x41\x00\x0b"
	return []fault{
		// Lists that are too long, behind how many there are.
		{1, "\xe9\x07", api.ErrFull}, {2, "\xe9\x07", api.ErrFull}, {3, "\xe9\x07", api.ErrFull}, {4, "\xe9\x07", api.ErrFull}, {5, "\xe9\x07", api.ErrFull}, {6, "\xe9\x07", api.ErrFull}, {7, "\xe9\x07", api.ErrFull}, {9, "\xe9\x07", api.ErrFull}, {10, "\xe9\x07", api.ErrFull}, {11, "\xff\xff\xff\xff\x0f", api.ErrFull}, {3, "\xe9\x87\x80\x80\x00", api.ErrFull},
		{1, "\x01\x60\x21", api.ErrFull}, {1, "\x01\x60\x00\x21", api.ErrFull}, {1, "\x01\x60\x01\x7f\xff\xff\xff\xff\x0f", api.ErrFull}, {9, "\x01\x00" + c + "\xe9\x07", api.ErrFull}, {9, "\x01\x02\x01" + c + "\x00\xe9\x07", api.ErrFull}, {10, "\x01\x05\x01\x81\x02\x7f\x0b", api.ErrFull},
		// Numbers that are none.
		{1, "\x80\x80\x80\x80\x10", api.ErrForm}, {3, "\x01\x80\x80\x80\x80\x10", api.ErrForm}, {3, "\x01\xff\xff\xff\xff\xff\x00", api.ErrForm}, {5, "\x01\x00\xff\xff\xff\xff\x1f", api.ErrForm}, {8, "\x80\x80\x80\x80\x10", api.ErrForm}, {12, "\xff\xff\xff\xff\x7f", api.ErrForm}, {9, "\x01\x80\x80\x80\x80\x10", api.ErrForm}, {11, "\x01\x82\x80\x80\x80\x10", api.ErrForm},
		{7, "\x01\x00\x00\x80\x80\x80\x80\x10", api.ErrForm}, {2, "\x01\x80\x80\x80\x80\x10", api.ErrForm}, {2, "\x01\x00\x00\x00\x80\x80\x80\x80\x10", api.ErrForm}, {9, "\x01\x00" + c + "\x01\x80\x80\x80\x80\x10", api.ErrForm}, {9, "\x01\x02\x80\x80\x80\x80\x10", api.ErrForm},
		// Bytes that may not be there.
		{1, "\x01\x00", api.ErrForm}, {1, "\x01\x61", api.ErrForm}, {1, "\x01\x5f", api.ErrForm}, {1, "\x01\xe0\x00", api.ErrForm},
		{2, "\x01\x00\x00\x04", api.ErrForm}, {2, "\x01\x00\x00\xff", api.ErrForm}, {2, "\x01\x00\x00\x80\x00", api.ErrForm}, {2, "\x01\x00\x00\x01\x6f", api.ErrForm}, {2, "\x01\x00\x00\x01\x7f", api.ErrForm}, {2, "\x01\x00\x00\x01\x7d", api.ErrForm}, {2, "\x01\x00\x00\x01\x70\x02", api.ErrForm}, {2, "\x01\x00\x00\x02\x02", api.ErrForm}, {2, "\x01\x00\x00\x02\x80\x00", api.ErrForm}, {2, "\x01\x00\x00\x03\x7f\x02", api.ErrForm}, {2, "\x01\x00\x00\x03\x7f\x80\x00", api.ErrForm}, {2, "\x01\x00\x00\x03\x40", api.ErrForm},
		{4, "\x01\x6f", api.ErrForm}, {4, "\x01\x7b", api.ErrForm}, {4, "\x01\x00", api.ErrForm}, {4, "\x01\xf0\x00", api.ErrForm}, {4, "\x01\x70\x02", api.ErrForm}, {4, "\x01\x70\x81\x00", api.ErrForm}, {5, "\x01\x02", api.ErrForm}, {5, "\x01\x03", api.ErrForm}, {5, "\x01\xff", api.ErrForm}, {5, "\x01\x80\x00", api.ErrForm},
		{6, "\x01\x00", api.ErrForm}, {6, "\x01\x7f\x02", api.ErrForm}, {6, "\x01\x7f\x81\x00", api.ErrForm}, {7, "\x01\x00\x04", api.ErrForm}, {7, "\x01\x00\x83\x00", api.ErrForm}, {9, "\x01\x01", api.ErrForm}, {9, "\x01\x03", api.ErrForm}, {9, "\x01\x04", api.ErrForm}, {9, "\x01\xff\x01", api.ErrForm}, {9, "\x01\x02\x00" + c + "\x01", api.ErrForm}, {9, "\x01\x02\x01" + c + "\x70", api.ErrForm}, {9, "\x01\x02\x00" + c + "\x82\x00", api.ErrForm},
		{11, "\x01\x01", api.ErrForm}, {11, "\x01\x03", api.ErrForm}, {11, "\x01\x81\x00", api.ErrForm},
		// Types.
		{1, "\x01\x60\x01\x7d", api.ErrFloat}, {1, "\x01\x60\x01\x7c", api.ErrFloat}, {1, "\x01\x60\x01\x7b", api.ErrSimd}, {1, "\x01\x60\x01\x6f", api.ErrForm}, {1, "\x01\x60\x00\x01\x7d", api.ErrFloat}, {1, "\x01\x60\x00\x02\x7f\x7b", api.ErrSimd}, {1, "\x01\x60\x00\x01\x60", api.ErrForm}, {2, "\x01\x00\x00\x03\x7d", api.ErrFloat}, {2, "\x01\x00\x00\x03\x7b", api.ErrSimd}, {6, "\x01\x7c", api.ErrFloat}, {6, "\x01\x7b", api.ErrSimd}, {10, "\x01\x05\x01\x01\x7c\x0b\x0b", api.ErrFloat}, {10, "\x01\x05\x01\x00\x7b\x0b\x0b", api.ErrSimd},
		// Names.
		{2, "\x01\x01\xff", api.ErrForm}, {2, "\x01\x00\x02\xc3\x28", api.ErrForm}, {7, "\x01\x01\x80", api.ErrForm}, {0, "\x01\xff", api.ErrForm}, {0, "\x03\xed\xa0\x80", api.ErrForm}, {2, "\x01\x65" + repeat("\xff", 101), api.ErrForm}, {7, "\x01\x65" + repeat("n", 100) + "\xc3", api.ErrForm}, {0, "\xac\x02" + repeat("n", 299) + "\xff", api.ErrForm},
		{2, "\x01" + long, api.ErrFull}, {2, "\x01\x00" + long, api.ErrFull}, {7, "\x01" + long, api.ErrFull}, {0, long, api.ErrFull}, {2, "\x01" + longer, api.ErrFull}, {7, "\x01" + longer, api.ErrFull}, {0, longer, api.ErrFull}, {0, "\x65" + repeat("n", 99) + "\u00e9", api.ErrFull},
		// Constants of none, of two instructions, of some that there are not.
		{6, "\x01\x7f\x00\x0b", api.ErrConst}, {6, "\x01\x7f\x00\x41\x00\x41\x00\x0b", api.ErrConst}, {6, "\x01\x7f\x00\x41\x00\x01\x0b", api.ErrConst}, {9, "\x01\x00\x0b", api.ErrConst}, {9, "\x01\x00\x01\x01\x0b", api.ErrConst}, {9, "\x01\x02\x01\x0b", api.ErrConst}, {11, "\x01\x00\x0b", api.ErrConst}, {11, "\x01\x02\x00\x02\x40\x0b\x01\x0b", api.ErrConst}, {11, "\x01\x00" + repeat("\x01", 8192) + "\x0b", api.ErrConst},
		{6, "\x01\x7f\x00\x43", api.ErrFloat}, {6, "\x01\x7f\x01\xfd", api.ErrSimd}, {6, "\x01\x7f\x00\x06", api.ErrOp}, {6, "\x01\x7f\x00\x05", api.ErrForm}, {6, "\x01\x7f\x00\xd0\x6f", api.ErrForm}, {9, "\x01\x00\xfc\x00", api.ErrFloat}, {9, "\x01\x02\x05\xfd", api.ErrSimd}, {11, "\x01\x00\xff", api.ErrOp}, {11, "\x01\x02\x00\x02\x7b", api.ErrSimd}, {11, "\x01\x00" + repeat("\x01", 8193), api.ErrFull}, {6, "\x01\x7f\x00" + repeat("\x02\x40", 33), api.ErrFull}, {9, "\x01\x00\x0e\xe9\x07", api.ErrFull},
		// Codes, within which all is read.
		{10, "\x01\x03\x00\x43\x0b", api.ErrFloat}, {10, "\x01\x03\x00\xfd\x0b", api.ErrSimd}, {10, "\x01\x03\x00\x06\x0b", api.ErrOp}, {10, "\x01\x02\x00\x05", api.ErrForm}, {10, "\x01\x00", api.ErrForm}, {10, "\x01\x01\x00\x0b", api.ErrForm}, {10, "\x01\x02\x00\x01\x0b", api.ErrForm}, {10, "\x01\x03\x00\x02\x40\x0b\x0b", api.ErrForm}, {10, "\x01\x03\x00\x0b\x0b", api.ErrForm}, {10, "\x01\x04\x00\x0b\x01\x0b", api.ErrForm}, {10, "\x01\x03\x00\x0b\x43", api.ErrForm}, {10, "\x01\x02\x01\x01\x7f\x0b", api.ErrForm},
		{10, "\x01\x83\x40\x00" + repeat("\x01", 8193) + "\x0b", api.ErrFull}, {10, "\x01\xc5\x00\x00" + repeat("\x02\x40", 33) + "\x0b\x0b", api.ErrFull}, {10, "\x01\xe9\x07\x00" + repeat("\x43", 1000), api.ErrFloat}, {10, "\x01\xe9\x07\x00" + repeat("\x43", 999), api.ErrForm}, {10, "\x01\x04\x00\x0e\xe9\x07", api.ErrFull},
		// No such section.
		{13, "", api.ErrForm}, {13, "\x00", api.ErrForm}, {14, "\x01\x60\x00\x00", api.ErrForm}, {127, "\x00", api.ErrForm}, {128, "\x00", api.ErrForm}, {255, "", api.ErrForm},
	}
}

// atEnd tells whether a fault may be that bytes are at an end, so that others behind them change it.
func (x fault) atEnd() bool {
	return x.e == api.ErrForm
}

// 6.2: each fault by itself, and ahead of each other one; sections ahead and behind that have none do not change it.
func TestTakeFaults(t *testing.T) {
	ahead := []string{head, head + section(0, "\x01nany"), head + section(0, "\x00") + section(0, "\x00\xff")}
	for _, x := range faults() {
		s := section(x.which, x.s)
		for _, a := range ahead {
			refused(t, a+s, x.e)
			refused(t, a+s+section(0, "\x00"), x.e)
			takes(t, a+s)
		}
		if x.which > 1 && x.which < 13 {
			refused(t, head+section(1, "\x01\x60\x00\x00")+s, x.e)
		}
		for _, y := range faults() {
			refused(t, head+s+section(y.which, y.s), x.e)
			if !x.atEnd() {
				refused(t, head+section(x.which, x.s+y.s), x.e)
			}
		}
	}
}

// 6.2: of two things in a list the first one's fault is told.
func TestTakeFirst(t *testing.T) {
	for _, x := range faults() {
		for _, y := range faults() {
			if x.which != y.which || x.which == 8 || x.which > 11 || !strings.HasPrefix(x.s, "\x01") || !strings.HasPrefix(y.s, "\x01") {
				continue
			}
			takes(t, head+section(x.which, "\x02"+x.s[1:]+y.s[1:]))
			takes(t, head+section(x.which, "\x01"+x.s[1:]+y.s[1:]))
		}
		for _, y := range things() {
			if y.which == x.which && y.s != "-" && strings.HasPrefix(x.s, "\x01") && len(y.s) < 100 {
				refused(t, head+section(x.which, "\x02"+y.s+x.s[1:]), x.e)
				takes(t, head+section(x.which, "\x02"+x.s[1:]+y.s))
			}
		}
	}
}

// 6.2: a fault within a thing, ahead of others in the same thing.
func TestTakeWithin(t *testing.T) {
	long := "\x65" + repeat("n", 101)
	for _, x := range []fault{
		{1, "\x01\x61\x01\x7d", api.ErrForm}, {1, "\x01\x60\x21\x7d", api.ErrFull}, {1, "\x01\x60\x02\x7d\x7b", api.ErrFloat}, {1, "\x01\x60\x02\x7b\x7d", api.ErrSimd}, {1, "\x01\x60\x02\x6f\x7d", api.ErrForm}, {1, "\x01\x60\x01\x7b\x21", api.ErrSimd}, {1, "\x02\x60\x00\x21\x61", api.ErrFull},
		{2, "\x01" + long + "\x01\xff\x04", api.ErrFull}, {2, "\x01\x01\xff" + long, api.ErrForm}, {2, "\x01\x00" + long + "\x04", api.ErrFull}, {2, "\x01\x00\x00\x04\x7d", api.ErrForm}, {2, "\x01\x00\x00\x03\x7d\x02", api.ErrFloat}, {2, "\x01\x00\x00\x03\x7b\x02", api.ErrSimd}, {2, "\x01\x00\x00\x01\x7d\x02", api.ErrForm},
		{6, "\x01\x7d\x02\x0b", api.ErrFloat}, {6, "\x01\x7f\x02\xfd", api.ErrForm}, {6, "\x01\x7f\x02\x0b", api.ErrForm}, {6, "\x01\x7f\x00\x43\x0b", api.ErrFloat}, {6, "\x01\x7f\x00\x01\x43\x0b", api.ErrFloat}, {6, "\x01\x7f\x00\x01\x01\x06", api.ErrOp},
		{7, "\x01" + long + "\x04", api.ErrFull}, {7, "\x01\x01\xff\x04", api.ErrForm},
		{9, "\x01\x01\x43", api.ErrForm}, {9, "\x01\x00\x0b\xe9\x07", api.ErrConst}, {9, "\x01\x00\x43\xe9\x07", api.ErrFloat}, {9, "\x01\x02\x01\x0b\x01", api.ErrConst}, {9, "\x01\x02\x01\x01\x0b\x01\xe9\x07", api.ErrForm}, {9, "\x01\x02\x80\x80\x80\x80\x10\x43", api.ErrForm},
		{10, "\x01\x05\x01\x81\x02\x7d\x43", api.ErrFloat}, {10, "\x01\x05\x01\x81\x02\x7f\x43", api.ErrFull}, {10, "\x01\x04\x01\x01\x7b\x43", api.ErrSimd}, {10, "\x02\x02\x00\x43\x02\x00\xfd", api.ErrFloat}, {10, "\x02\x02\x00\xfd\x09", api.ErrSimd}, {10, "\x02\x03\x00\x0b\x0b\x02\x00\x43", api.ErrForm},
		{11, "\x01\x00\x0b\xff\xff\xff\xff\x0f", api.ErrConst}, {11, "\x01\x03\x0b", api.ErrForm}, {11, "\x02\x00\x01\x0b\x09b\x03", api.ErrForm}, {11, "\x02\x00\x01\x0b\x00\x00\x43", api.ErrFloat},
	} {
		refused(t, head+section(x.which, x.s), x.e)
		takes(t, head+section(x.which, x.s))
	}
}

// 6.2: sections that stand the wrong way round, or twice, by two, for all that there are.
func TestTakeOrder(t *testing.T) {
	order := []int{1, 2, 3, 4, 5, 6, 7, 8, 9, 12, 10, 11}
	empty := func(which int) string { return section(which, "\x00") }
	for i, a := range order {
		for j, b := range order {
			s, e := head+empty(a)+empty(b), api.OK
			if i >= j {
				e = api.ErrForm
			}
			if _, ge := Take(s); ge != e {
				t.Errorf("%x: %d", s, ge)
			}
			for _, between := range []string{empty(0), section(0, "\x01n"), empty(0) + empty(0)} {
				if _, ge := Take(head + between + empty(a) + between + empty(b) + between); ge != e {
					t.Errorf("%d %d: %d", a, b, ge)
				}
			}
			for c := range order {
				takes(t, s+empty(order[c]))
			}
		}
		for _, none := range []int{13, 14, 63, 64, 127, 128, 129, 255} {
			refused(t, head+empty(a)+empty(none), api.ErrForm)
			refused(t, head+empty(none)+empty(a), api.ErrForm)
		}
	}
	all := head
	for _, which := range order {
		all += empty(which)
	}
	reads(t, all, api.Module{Start: 1})
	for _, which := range order {
		refused(t, all+empty(which), api.ErrForm)
	}
}

// 6.2: that a section may not stand here is told behind its content: a fault within that is ahead of it.
func TestTakeOrderBehind(t *testing.T) {
	for _, x := range faults() {
		if x.which == 0 || x.which > 12 {
			continue
		}
		for _, ahead := range []int{10, 11} {
			s := head + section(ahead, "\x00") + section(x.which, x.s)
			refused(t, s, x.e)
			takes(t, s)
		}
	}
	refused(t, head+"\x03\x01\x00"+"\x01\x05\x01\x60\x01\x7d\x00", api.ErrFloat)
	refused(t, head+"\x03\x01\x00"+"\x01\x05\x01\x60\x01\x7f\x00"+"\x06\x01\x7d", api.ErrForm)
	refused(t, head+"\x03\x01\x00"+"\x01\x06\x01\x60\x01\x7d\x00", api.ErrForm)
}

// 6.2: content that is too short, or has bytes left over, of each section; within it nothing behind it is read.
func TestTakeContent(t *testing.T) {
	contents := map[int]string{0: "\x02nn", 8: "\x80\x01", 12: "\x80\x00"}
	for _, x := range things() {
		if x.s != "-" && len(contents[x.which]) < len(x.s)+1 && len(x.s) < 40 {
			contents[x.which] = "\x01" + x.s
		}
	}
	for which, content := range contents {
		for i := range len(content) {
			refused(t, head+section(which, content[:i]), api.ErrForm)
			refused(t, head+section(which, content[:i])+content[i:], api.ErrForm)
			refused(t, head+one(which)+number(len(content))+content[:i], api.ErrForm)
			refused(t, head+section(which, content[:i])+section(11, "\x00"), api.ErrForm)
		}
		for c := range 256 {
			if which != 0 {
				refused(t, head+section(which, content+one(c)), api.ErrForm)
				refused(t, head+section(which, content+one(c)+"\x00"), api.ErrForm)
				refused(t, head+section(which, "\x00"+one(c)), api.ErrForm)
			}
			takes(t, head+section(which, content+one(c)))
			takes(t, head+section(which, one(c)+content))
			takes(t, head+section(which, content)+one(c))
		}
	}
	for _, n := range []string{"", "\x80", "\x02", "\x80\x80\x80\x80\x10", "\xff\xff\xff\xff\x0f", "\x80\x80\x80\x80\x80\x00"} {
		refused(t, head+"\x01"+n, api.ErrForm)
		refused(t, head+"\x00"+n+"\x00", api.ErrForm)
		refused(t, head+"\x0d"+n, api.ErrForm)
	}
}

// 6.2: as many codes as functions, as many datas as the section 12 says, asked at the end.
func TestTakePairs(t *testing.T) {
	for funcs := range 4 {
		for codes := range 4 {
			s := head
			if funcs > 0 {
				s += listed(3, funcs, "\x00")
			}
			if funcs > 0 {
				refused(t, s, api.ErrForm)
			}
			s += listed(10, codes, "\x02\x00\x0b")
			if funcs == codes {
				reads(t, s, api.Module{Funcs: make([]int, funcs), Codes: make([]api.Code, codes)})
				continue
			}
			refused(t, s, api.ErrForm)
			refused(t, s+section(11, "\x01\x00\x43"), api.ErrFloat)
			refused(t, s+section(11, "\xe9\x07"), api.ErrFull)
		}
	}
	for told := range 4 {
		for datas := range 4 {
			s := head + section(12, number(told)) + listed(11, datas, "\x00\x00\x0b\x01b")
			if told == datas {
				reads(t, s, api.Module{Datas: slices.Repeat([]api.Data{{B: "b"}}, datas)})
				continue
			}
			refused(t, s, api.ErrForm)
			refused(t, head+section(12, number(told+1)), api.ErrForm)
			refused(t, head+section(12, number(told))+section(11, number(datas+1)+repeat("\x00\x00\x0b\x01b", datas)+"\x00\x43"), api.ErrFloat)
		}
	}
	for _, n := range []int{1000, 1001, most} {
		refused(t, head+section(12, number(n)), api.ErrForm)
		refused(t, head+section(12, number(n))+section(11, "\x01\x00\x0b"), api.ErrConst)
	}
	reads(t, head+section(12, number(1000))+listed(11, 1000, "\x00\x00\x0b\x00"), times(datas(api.Data{}), 1000))
}

// 6.2: the head.
func TestTakeHead(t *testing.T) {
	reads(t, head, api.Module{})
	for i := range len(head) {
		refused(t, head[:i], api.ErrForm)
		for _, c := range []byte{0, 1, 2, 0x0D, 'a', 0xFF} {
			if c != head[i] {
				refused(t, head[:i]+one(int(c))+head[i+1:], api.ErrForm)
				refused(t, head[:i]+one(int(c))+head[i+1:]+section(1, "\x01\x60\x01\x7d"), api.ErrForm)
			}
		}
		refused(t, head[:i]+head[i+1:]+"\x08\x01\x00", api.ErrForm)
	}
	refused(t, "x"+head, api.ErrForm)
	refused(t, head+head, api.ErrForm)
}

// 6.2: MaxModule bytes, and one more, whatever they are.
func TestTakeMaxModule(t *testing.T) {
	// passed is a module of so many bytes, most of which are passed over.
	passed := func(n int) string { return head + section(0, "\x01n"+repeat("\xff", n-8-1-3-2)) }
	for _, n := range []int{65535, 65536, 65537, 65538, 1 << 20} {
		if len(passed(n)) != n {
			t.Fatal(n, len(passed(n)))
		}
		rubbish := []fault{{0, repeat("\x00", n), api.ErrForm}, {0, repeat("\xff", n), api.ErrForm}, {0, head + repeat("\x0d", n-8), api.ErrForm}, {0, head + section(1, "\x01\x60\x01\x7d") + repeat("\x00", n-8-6), api.ErrFloat}}
		if n > 65536 {
			refused(t, passed(n), api.ErrFull)
		} else {
			reads(t, passed(n), api.Module{})
		}
		for _, x := range rubbish {
			if n > 65536 {
				x.e = api.ErrFull
			}
			refused(t, x.s, x.e)
		}
	}
}

// 6.2: bytes that are cut off at each place: what is whole up to there is read, all else is at an end.
func TestTakeCut(t *testing.T) {
	s := fullBytes()
	whole := map[int]bool{}
	for at := 8; at < len(s); at += 2 + int(s[at+1]) {
		// Behind the functions something is missing till their codes are there.
		if which := s[at]; which <= 3 || which == 11 {
			whole[at] = true
		}
	}
	if len(whole) != 4 {
		t.Fatal(whole)
	}
	for i := range len(s) {
		if whole[i] {
			takes(t, s[:i])
			if _, e := Take(s[:i]); e != api.OK {
				t.Errorf("%d: %d", i, e)
			}
			continue
		}
		refused(t, s[:i], api.ErrForm)
		takes(t, s[:i])
	}
	reads(t, s, full())
	// Without functions each section's end is whole.
	d := dice(8)
	for i := range 200 {
		m := d.module(1 + i%4)
		m.Funcs, m.Codes = nil, nil
		s := plainWriter{&d}.module(m)
		for i := range len(s) {
			takes(t, s[:i])
		}
	}
}

// 6.2, 6.3: modules of all kinds, written in all ways in which they may be read.
func TestTakeMany(t *testing.T) {
	d := dice(9)
	for i := range 5000 {
		m := d.module(1 + i%8)
		s := plainWriter{&d}.module(m)
		reads(t, s, m)
		takes(t, s)
		again(t, s)
	}
}

// 6.2, 6.3: bytes of modules with some of them changed, left out or put in between, by the chapter's words; what is read is laid, and read again.
func TestTakeChanged(t *testing.T) {
	d := dice(10)
	values := []byte{0x00, 0x01, 0x02, 0x03, 0x04, 0x05, 0x08, 0x09, 0x0A, 0x0B, 0x0C, 0x0D, 0x20, 0x21, 0x40, 0x41, 0x43, 0x60, 0x64, 0x65, 0x70, 0x7B, 0x7C, 0x7D, 0x7E, 0x7F, 0x80, 0x81, 0xE9, 0xFC, 0xFD, 0xFF}
	for i := range 600 {
		s := plainWriter{}.module(d.module(1 + i%3))
		if i%2 == 0 {
			s = plainWriter{&d}.module(d.module(1 + i%3))
		}
		for range 100 {
			at, v := d.throw(len(s)), one(int(pick(&d, values)))
			if d.throw(2) == 0 {
				// Beside the head there is more to be changed.
				at = min(len(s)-1, 8+d.throw(len(s)))
			}
			for _, changed := range []string{s[:at] + v + s[at+1:], s[:at] + s[at+1:], s[:at] + v + s[at:], s[:at] + v} {
				takes(t, changed)
				again(t, changed)
			}
		}
	}
}

// P1, R2: nothing that is handed in makes a call panic; with an error all else is zero.
func TestCalm(t *testing.T) {
	d := dice(11)
	for range 50000 {
		b := make([]byte, d.throw(40))
		for i := range b {
			b[i] = byte(d.throw(256))
			if d.throw(3) > 0 {
				b[i] = byte(d.throw(16))
			}
		}
		for _, s := range []string{string(b), head + string(b), head + section(1+d.throw(12), string(b)), head + section(1+d.throw(12), "\x01"+string(b))} {
			takes(t, s)
			again(t, s)
		}
	}
	// A list that is within itself ends, too.
	loop := []api.Instr{{Op: 0x02, A: -64}}
	loop[0].L = loop
	for _, m := range []api.Module{globe(api.Global{T: 0x7F, Init: loop[0]}), coded(api.Code{L: loop}), elems(api.Elem{Off: loop[0]}), datas(api.Data{Off: loop[0]})} {
		if s, e := Put(m); s != "" || e != api.ErrArg {
			t.Errorf("%x %d", s, e)
		}
	}
}

// R4: two modules that were answered share nothing, the lists of one neither.
func TestTakeOwn(t *testing.T) {
	s := fullBytes()
	a, _ := Take(s)
	b, _ := Take(s)
	clear(a.Types[1].P)
	clear(a.Types[1].R)
	clear(a.Imports)
	clear(a.Funcs)
	clear(a.Tables)
	clear(a.Mems)
	clear(a.Globals)
	clear(a.Exports)
	clear(a.Elems[0].F)
	clear(a.Codes[0].Locals)
	clear(a.Codes[0].L[0].L[0].N)
	clear(a.Codes[0].L)
	clear(a.Datas)
	clear(a.Types)
	if !same(b, full()) {
		t.Error(shown(b))
	}
	_ = append(b.Types[1].P, 1, 2, 3, 4)
	_ = append(b.Types[1].R, 1, 2, 3, 4)
	_ = append(b.Types, api.FuncType{P: []int{9}})
	_ = append(b.Funcs, 9)
	_ = append(b.Tables, api.Limits{Min: 9})
	_ = append(b.Mems, api.Limits{Min: 9})
	_ = append(b.Elems[0].F, 9, 9, 9)
	_ = append(b.Elems[1].F, 9, 9, 9)
	_ = append(b.Codes[0].Locals, 9, 9, 9, 9, 9)
	_ = append(b.Codes[0].L, api.Instr{Op: 9})
	if !same(b, full()) {
		t.Error(shown(b))
	}
}
