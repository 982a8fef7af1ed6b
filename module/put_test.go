package module

import (
	"fmt"
	"math"
	"slices"
	"strings"
	"testing"

	"scarf/api"
)

// thing is a module with one thing, the section that it is in, and the thing's bytes, "-" if it may not be laid.
type thing struct {
	m     api.Module
	which int
	s     string
}

// The modules with one thing.
func typed(f api.FuncType) api.Module  { return api.Module{Types: []api.FuncType{f}} }
func imports(in api.Import) api.Module { return api.Module{Imports: []api.Import{in}} }
func tabled(l api.Limits) api.Module   { return api.Module{Tables: []api.Limits{l}} }
func memory(l api.Limits) api.Module   { return api.Module{Mems: []api.Limits{l}} }
func globe(g api.Global) api.Module    { return api.Module{Globals: []api.Global{g}} }
func exports(x api.Export) api.Module  { return api.Module{Exports: []api.Export{x}} }
func elems(e api.Elem) api.Module      { return api.Module{Elems: []api.Elem{e}} }
func coded(c api.Code) api.Module      { return api.Module{Funcs: []int{0}, Codes: []api.Code{c}} }
func datas(d api.Data) api.Module      { return api.Module{Datas: []api.Data{d}} }

// i32 is a type so many times.
func i32(n int) []int { return slices.Repeat([]int{0x7F}, n) }

func repeat(s string, n int) string { return strings.Repeat(s, n) }

// one32 is a constant, zero its bytes.
var one32 = api.Instr{Op: 0x41, A: 1}

const zero = "\x41\x00\x0b"

// indices are numbers at and beside the edges of an index, with their bytes.
func indices() map[int]string {
	return map[int]string{
		0: "\x00", 1: "\x01", 127: "\x7f", 128: "\x80\x01", 16384: "\x80\x80\x01", most - 1: "\xfe\xff\xff\xff\x0f", most: "\xff\xff\xff\xff\x0f",
		most + 1: "-", most + 2: "-", -1: "-", -2: "-", -128: "-", math.MinInt: "-", math.MaxInt: "-",
	}
}

// names are names at and beside the edges, with their bytes.
func names() map[string]string {
	return map[string]string{
		"": "\x00", "a": "\x01a", "\x00": "\x01\x00", "\u00e9": "\x02\xc3\xa9", "\U0010ffff": "\x04\xf4\x8f\xbf\xbf",
		repeat("n", 100): "\x64" + repeat("n", 100), repeat("\u00e9", 50): "\x64" + repeat("\xc3\xa9", 50), repeat("n", 97) + "\u20ac": "\x64" + repeat("n", 97) + "\xe2\x82\xac",
		repeat("n", 101): "-", repeat("n", 99) + "\u00e9": "-", repeat("n", 128): "-", repeat("n", 1000): "-",
		"\xff": "-", "\xc3": "-", "a\x80": "-", "\xc0\x80": "-", "\xed\xa0\x80": "-", "\xf4\x90\x80\x80": "-", repeat("n", 99) + "\xc3": "-", repeat("\xff", 101): "-",
	}
}

// types are types at and beside those that there are, with their bytes.
func types() map[int]string {
	return map[int]string{
		0x7F: "\x7f", 0x7E: "\x7e", 0x70: "\x70",
		0x7D: "-", 0x7C: "-", 0x7B: "-", 0x6F: "-", 0x71: "-", 0x80: "-", 0x60: "-", 0x40: "-", 0: "-", 1: "-", 3: "-", -1: "-", -2: "-", -16: "-", 0x17F: "-", 0x10070: "-", math.MinInt: "-", math.MaxInt: "-",
	}
}

// limits are limits at and beside the edges, with their bytes. Whether Max is at least Min is nobody's business here.
func limits() map[api.Limits]string {
	l := map[api.Limits]string{
		{Min: 0, Max: 0}: "\x01\x00\x00", {Min: 2, Max: 1}: "\x01\x02\x01", {Min: 300, Max: 128}: "\x01\xac\x02\x80\x01", {Min: most, Max: most}: "\x01\xff\xff\xff\xff\x0f\xff\xff\xff\xff\x0f",
		{Min: -1, Max: 0}: "-", {Min: most + 1, Max: most}: "-", {Min: 0, Max: -2}: "-", {Min: 0, Max: math.MinInt}: "-", {Min: -1, Max: -2}: "-",
	}
	for n, s := range indices() {
		l[api.Limits{Min: n, Max: -1}] = behind("\x00", s)
		if n != -1 {
			l[api.Limits{Min: 5, Max: n}] = behind("\x01\x05", s)
		}
	}
	return l
}

// constants are instructions, with the bytes of a constant.
func constants() []struct {
	in api.Instr
	s  string
} {
	return []struct {
		in api.Instr
		s  string
	}{
		{api.Instr{Op: 0x41}, zero}, {api.Instr{Op: 0x41, A: -1}, "\x41\x7f\x0b"}, {api.Instr{Op: 0x42, A: 64}, "\x42\xc0\x00\x0b"}, {api.Instr{Op: 0xD0}, "\xd0\x70\x0b"}, {api.Instr{Op: 0xD2, A: 128}, "\xd2\x80\x01\x0b"}, {api.Instr{Op: 0x23, A: 1}, "\x23\x01\x0b"},
		// Which instructions a constant may be is nobody's business here.
		{api.Instr{Op: 0x01}, "\x01\x0b"}, {api.Instr{Op: 0x6A}, "\x6a\x0b"}, {api.Instr{}, "\x00\x0b"}, {api.Instr{Op: 0x02, A: -64}, "\x02\x40\x0b\x0b"}, {api.Instr{Op: 0x02, A: -64, L: []api.Instr{{Op: 0x01}, {Op: 0x01}}}, "\x02\x40\x01\x01\x0b\x0b"},
		{api.Instr{Op: 0x41, A: 1 << 31}, "-"}, {api.Instr{Op: 0x41, M: 1}, "-"}, {api.Instr{Op: 0x43}, "-"}, {api.Instr{Op: 0xFD}, "-"}, {api.Instr{Op: 0x0B}, "-"}, {api.Instr{Op: -1}, "-"}, {api.Instr{Op: 0xD2, A: -1}, "-"}, {api.Instr{Op: 0x23, A: most + 1}, "-"}, {api.Instr{Op: 0x02, A: -64, L: []api.Instr{{Op: 0x05}}}, "-"},
	}
}

// behind is bytes behind others, if they may be laid.
func behind(ahead, s string) string { return around(ahead, s, "") }

// around is bytes between others, if they may be laid.
func around(ahead, s, after string) string {
	if s == "-" {
		return "-"
	}
	return ahead + s + after
}

// things are all things, at and beside the edges of each field.
func things() []thing {
	return slices.Concat(typeThings(), importThings(), sizeThings(), globalThings(), exportThings(), elemThings(), codeThings(), dataThings())
}

func typeThings() []thing {
	l := []thing{
		{typed(api.FuncType{}), 1, "\x60\x00\x00"}, {typed(api.FuncType{P: []int{}, R: []int{}}), 1, "\x60\x00\x00"}, {typed(api.FuncType{P: []int{0x7F}}), 1, "\x60\x01\x7f\x00"}, {typed(api.FuncType{P: []int{0x7F, 0x7E, 0x70}, R: []int{0x70, 0x7F}}), 1, "\x60\x03\x7f\x7e\x70\x02\x70\x7f"},
		{typed(api.FuncType{P: i32(32)}), 1, "\x60\x20" + repeat("\x7f", 32) + "\x00"}, {typed(api.FuncType{R: i32(32)}), 1, "\x60\x00\x20" + repeat("\x7f", 32)}, {typed(api.FuncType{P: i32(33)}), 1, "-"}, {typed(api.FuncType{R: i32(33)}), 1, "-"}, {typed(api.FuncType{P: i32(1000)}), 1, "-"},
	}
	for t, s := range types() {
		l = append(l, thing{typed(api.FuncType{P: []int{t}}), 1, around("\x60\x01", s, "\x00")}, thing{typed(api.FuncType{P: []int{0x7E, t}, R: []int{0x70}}), 1, around("\x60\x02\x7e", s, "\x01\x70")},
			thing{typed(api.FuncType{R: []int{t}}), 1, behind("\x60\x00\x01", s)}, thing{typed(api.FuncType{P: i32(1), R: []int{0x7E, 0x70, t}}), 1, behind("\x60\x01\x7f\x03\x7e\x70", s)})
	}
	return l
}

func importThings() []thing {
	var l []thing
	add := func(in api.Import, s string) {
		in.Mod, in.Name = "m", "nn"
		l = append(l, thing{imports(in), 2, behind("\x01m\x02nn", s)})
	}
	for n, s := range names() {
		l = append(l, thing{imports(api.Import{Mod: n}), 2, around("", s, "\x00\x00\x00")}, thing{imports(api.Import{Mod: "k", Name: n, Kind: 2, Lim: api.Limits{Max: -1}}), 2, around("\x01k", s, "\x02\x00\x00")})
	}
	for n, s := range indices() {
		add(api.Import{T: n}, behind("\x00", s))
	}
	for lim, s := range limits() {
		add(api.Import{Kind: 1, Lim: lim}, behind("\x01\x70", s))
		add(api.Import{Kind: 2, Lim: lim}, behind("\x02", s))
		if lim != (api.Limits{}) {
			add(api.Import{Kind: 0, Lim: lim}, "-")
			add(api.Import{Kind: 3, T: 0x7F, Lim: lim}, "-")
		}
	}
	for t, s := range types() {
		add(api.Import{Kind: 3, T: t}, around("\x03", s, "\x00"))
		add(api.Import{Kind: 3, T: t, Mut: true}, around("\x03", s, "\x01"))
		if t != 0 {
			add(api.Import{Kind: 1, T: t, Lim: api.Limits{Max: -1}}, "-")
			add(api.Import{Kind: 2, T: t, Lim: api.Limits{Max: -1}}, "-")
		}
	}
	for _, kind := range []int{-1, 4, 5, 255, 256, 257, 258, 259, math.MinInt, math.MaxInt} {
		add(api.Import{Kind: kind}, "-")
	}
	for kind := range 3 {
		add(api.Import{Kind: kind, Mut: true}, "-")
	}
	return l
}

// sizeThings are functions, tables, memories, and the start.
func sizeThings() []thing {
	var l []thing
	for n, s := range indices() {
		l = append(l, thing{api.Module{Funcs: []int{n}, Codes: []api.Code{{}}}, 3, s})
	}
	for lim, s := range limits() {
		l = append(l, thing{tabled(lim), 4, behind("\x70", s)}, thing{memory(lim), 5, s})
	}
	return l
}

func globalThings() []thing {
	l := []thing{{globe(api.Global{T: 0x7E, Mut: true, Init: one32}), 6, "\x7e\x01\x41\x01\x0b"}, {globe(api.Global{T: 0x70, Init: one32}), 6, "\x70\x00\x41\x01\x0b"}}
	for t, s := range types() {
		l = append(l, thing{globe(api.Global{T: t, Init: one32}), 6, around("", s, "\x00\x41\x01\x0b")})
	}
	for _, c := range constants() {
		l = append(l, thing{globe(api.Global{T: 0x7F, Mut: true, Init: c.in}), 6, behind("\x7f\x01", c.s)})
	}
	return l
}

func exportThings() []thing {
	var l []thing
	for n, s := range names() {
		l = append(l, thing{exports(api.Export{Name: n}), 7, around("", s, "\x00\x00")})
	}
	for n, s := range indices() {
		for kind := range 4 {
			l = append(l, thing{exports(api.Export{Name: "e", Kind: kind, I: n}), 7, behind("\x01e"+one(kind), s)})
		}
	}
	for _, kind := range []int{-1, 4, 255, 256, 257, math.MinInt, math.MaxInt} {
		l = append(l, thing{exports(api.Export{Kind: kind}), 7, "-"})
	}
	return l
}

func elemThings() []thing {
	l := []thing{
		{elems(api.Elem{}), 9, "\x00\x00\x0b\x00"}, {elems(api.Elem{Off: one32, F: []int{}}), 9, "\x00\x41\x01\x0b\x00"}, {elems(api.Elem{Off: one32, F: []int{3, 128}}), 9, "\x00\x41\x01\x0b\x02\x03\x80\x01"}, {elems(api.Elem{Table: 1, Off: one32, F: []int{3}}), 9, "\x02\x01\x41\x01\x0b\x00\x01\x03"},
		{elems(api.Elem{Off: one32, F: make([]int, 1000)}), 9, "\x00\x41\x01\x0b\xe8\x07" + repeat("\x00", 1000)}, {elems(api.Elem{Off: one32, F: make([]int, 1001)}), 9, "-"}, {elems(api.Elem{Table: 2, Off: one32, F: make([]int, 1001)}), 9, "-"},
	}
	for n, s := range indices() {
		l = append(l, thing{elems(api.Elem{Off: one32, F: []int{n}}), 9, behind("\x00\x41\x01\x0b\x01", s)}, thing{elems(api.Elem{Off: one32, F: []int{0, n, 1}}), 9, around("\x00\x41\x01\x0b\x03\x00", s, "\x01")})
		if n != 0 {
			l = append(l, thing{elems(api.Elem{Table: n, Off: one32}), 9, around("\x02", s, "\x41\x01\x0b\x00\x00")})
		}
	}
	for _, c := range constants() {
		l = append(l, thing{elems(api.Elem{Off: c.in}), 9, around("\x00", c.s, "\x00")}, thing{elems(api.Elem{Table: 128, Off: c.in, F: []int{5}}), 9, around("\x02\x80\x01", c.s, "\x00\x01\x05")})
	}
	return l
}

func codeThings() []thing {
	mixed := slices.Concat(i32(3), []int{0x7E, 0x7E}, []int{0x70}, i32(1))
	turns := slices.Repeat([]int{0x7F, 0x7E}, 128)
	l := []thing{
		{coded(api.Code{}), 10, "\x02\x00\x0b"}, {coded(api.Code{Locals: []int{}, L: []api.Instr{}}), 10, "\x02\x00\x0b"}, {coded(api.Code{Locals: i32(1)}), 10, "\x04\x01\x01\x7f\x0b"}, {coded(api.Code{Locals: i32(128)}), 10, "\x05\x01\x80\x01\x7f\x0b"},
		{coded(api.Code{Locals: mixed}), 10, "\x0a\x04\x03\x7f\x02\x7e\x01\x70\x01\x7f\x0b"}, {coded(api.Code{Locals: []int{0x70, 0x7F, 0x7F}, L: []api.Instr{{Op: 0x01}}}), 10, "\x07\x02\x01\x70\x02\x7f\x01\x0b"},
		{coded(api.Code{Locals: i32(256)}), 10, "\x05\x01\x80\x02\x7f\x0b"}, {coded(api.Code{Locals: turns}), 10, "\x83\x04\x80\x02" + repeat("\x01\x7f\x01\x7e", 128) + "\x0b"},
		{coded(api.Code{Locals: i32(257)}), 10, "-"}, {coded(api.Code{Locals: append(turns, 0x70)}), 10, "-"}, {coded(api.Code{Locals: i32(10000)}), 10, "-"},
		{coded(api.Code{L: []api.Instr{{Op: 0x20, A: 300}, {Op: 0x1A}}}), 10, "\x06\x00\x20\xac\x02\x1a\x0b"}, {coded(api.Code{L: slices.Repeat([]api.Instr{{Op: 0x01}}, 8192)}), 10, "\x82\x40\x00" + repeat("\x01", 8192) + "\x0b"}, {coded(api.Code{L: slices.Repeat([]api.Instr{{Op: 0x01}}, 8193)}), 10, "-"},
		{coded(api.Code{L: []api.Instr{{Op: 0x0B}}}), 10, "-"}, {coded(api.Code{L: []api.Instr{{Op: 0x01}, {Op: 0x43}}}), 10, "-"}, {coded(api.Code{L: []api.Instr{{Op: 0x20, A: -1}}}), 10, "-"},
	}
	for t, s := range types() {
		l = append(l, thing{coded(api.Code{Locals: []int{t}}), 10, around("\x04\x01\x01", s, "\x0b")})
		if t != 0x7F {
			l = append(l, thing{coded(api.Code{Locals: []int{0x7F, t, t, 0x7F}}), 10, around("\x08\x03\x01\x7f\x02", s, "\x01\x7f\x0b")})
		}
	}
	return l
}

func dataThings() []thing {
	l := []thing{
		{datas(api.Data{}), 11, "\x00\x00\x0b\x00"}, {datas(api.Data{Off: one32, B: "\xff\x00b"}), 11, "\x00\x41\x01\x0b\x03\xff\x00b"}, {datas(api.Data{Off: one32, B: repeat("b", 300)}), 11, "\x00\x41\x01\x0b\xac\x02" + repeat("b", 300)}, {datas(api.Data{Mem: 1, Off: one32, B: "b"}), 11, "\x02\x01\x41\x01\x0b\x01b"},
	}
	for n, s := range indices() {
		if n != 0 {
			l = append(l, thing{datas(api.Data{Mem: n, Off: one32, B: "b"}), 11, around("\x02", s, "\x41\x01\x0b\x01b")})
		}
	}
	for _, c := range constants() {
		l = append(l, thing{datas(api.Data{Off: c.in}), 11, around("\x00", c.s, "\x00")}, thing{datas(api.Data{Mem: 128, Off: c.in, B: "b"}), 11, around("\x02\x80\x01", c.s, "\x01b")})
	}
	return l
}

// bytes are the bytes of a module that has a thing n times: functions and codes come in pairs.
func (x thing) bytes(n int) string {
	switch x.which {
	case 3:
		return head + listed(3, n, x.s) + listed(10, n, "\x02\x00\x0b")
	case 10:
		return head + listed(3, n, "\x00") + listed(10, n, x.s)
	}
	return head + listed(x.which, n, x.s)
}

// shown is a module, as short as a message need be.
func shown(m any) string {
	s := fmt.Sprintf("%.300v", m)
	return s[:min(300, len(s))]
}

// lays holds Put against what it is to tell, and Take against what was laid.
func lays(t *testing.T, m api.Module, want string, we api.Errno) {
	t.Helper()
	s, e := Put(m)
	if s != want || e != we {
		t.Errorf("Put(%s): %.300x %d, want %.300x %d", shown(m), s, e, want, we)
	}
	if e == api.OK {
		reads(t, s, m)
	}
}

// reads holds Take against the module that it is to tell.
func reads(t *testing.T, s string, want api.Module) {
	t.Helper()
	if m, e := Take(s); !same(m, want) || e != api.OK {
		t.Errorf("Take(%.300x): %s %d, want %s", s, shown(m), e, shown(want))
	}
}

// 6.1: the module without anything, and the chapter's example.
func TestPutExamples(t *testing.T) {
	if Head != head {
		t.Errorf("%x", Head)
	}
	lays(t, api.Module{}, head, api.OK)
	lays(t, api.Module{Types: []api.FuncType{}, Imports: []api.Import{}, Funcs: []int{}, Tables: []api.Limits{}, Mems: []api.Limits{}, Globals: []api.Global{}, Exports: []api.Export{}, Elems: []api.Elem{}, Codes: []api.Code{}, Datas: []api.Data{}}, head, api.OK)
	lays(t, typed(api.FuncType{P: i32(1)}), head+"\x01\x05\x01\x60\x01\x7f\x00", api.OK)
	lays(t, full(), fullBytes(), api.OK)
}

// fullBytes are the bytes of full, by hand.
func fullBytes() string {
	return head +
		section(1, "\x03"+"\x60\x00\x00"+"\x60\x02\x7f\x7e\x01\x70"+"\x60\x00\x01\x7f") +
		section(2, "\x04"+"\x01m\x04func\x00\x02"+"\x01m\x05table\x01\x70\x00\x03"+"\x03\xe2\x82\xac\x03mem\x02\x01\x01\xac\x02"+"\x00\x00\x03\x7e\x01") +
		"\x03\x03\x02\x01\x00" +
		"\x04\x09\x02\x70\x01\x0a\xc8\x01\x70\x00\x00" +
		"\x05\x06\x02\x00\x02\x01\x03\x04" +
		section(6, "\x02"+"\x7f\x01\x41\x79\x0b"+"\x70\x00\xd2\x01\x0b") +
		section(7, "\x02"+"\x01f\x00\x01"+"\x01g\x03\xc8\x01") +
		"\x08\x01\x01" +
		section(9, "\x02"+"\x00\x41\x05\x0b\x03\x00\x01\xac\x02"+"\x02\x01\x41\x06\x0b\x00\x00") +
		section(10, "\x02"+counted("\x03\x02\x7f\x01\x7e\x01\x7f"+"\x04\x40\x0e\x02\x00\x01\x01\x05\x01\x0b\xd0\x70\x0b")+"\x02\x00\x0b") +
		section(11, "\x02"+"\x00\x41\x08\x0b\x06bytes\xff"+"\x02\x01\x41\x09\x0b\x00")
}

// both is a module with the things of two, one behind the other.
func both(a, b api.Module) api.Module {
	return api.Module{
		Types: slices.Concat(a.Types, b.Types), Imports: slices.Concat(a.Imports, b.Imports), Funcs: slices.Concat(a.Funcs, b.Funcs),
		Tables: slices.Concat(a.Tables, b.Tables), Mems: slices.Concat(a.Mems, b.Mems), Globals: slices.Concat(a.Globals, b.Globals),
		Exports: slices.Concat(a.Exports, b.Exports), Start: max(a.Start, b.Start), Elems: slices.Concat(a.Elems, b.Elems),
		Codes: slices.Concat(a.Codes, b.Codes), Datas: slices.Concat(a.Datas, b.Datas),
	}
}

// 6.1, 6.2: each field of each thing at and beside its edges, alone, three times, and ahead of and behind others that may be.
func TestPutThings(t *testing.T) {
	for _, x := range things() {
		if x.s == "-" {
			for _, m := range []api.Module{x.m, both(full(), x.m), both(x.m, full())} {
				lays(t, m, "", api.ErrArg)
			}
			continue
		}
		lays(t, x.m, x.bytes(1), api.OK)
		lays(t, times(x.m, 3), x.bytes(3), api.OK)
	}
}

// 6.1, 6.2: lists of MaxList things, and of one more.
func TestMaxList(t *testing.T) {
	seen := map[int]int{}
	for _, x := range things() {
		if x.s == "-" || len(x.s) > 64 || seen[x.which] == 8 {
			continue
		}
		seen[x.which]++
		lays(t, times(x.m, 1000), x.bytes(1000), api.OK)
		for _, n := range []int{1001, 1002, 1024, 3000} {
			lays(t, times(x.m, n), "", api.ErrArg)
			refused(t, x.bytes(n), api.ErrFull)
		}
	}
	if len(seen) != 10 {
		t.Error(seen)
	}
}

// 6.1: as many codes as functions.
func TestPutPairs(t *testing.T) {
	for funcs := range 4 {
		for codes := range 4 {
			m := api.Module{Funcs: make([]int, funcs), Codes: make([]api.Code, codes)}
			if funcs != codes {
				lays(t, m, "", api.ErrArg)
				continue
			}
			s := head
			if funcs > 0 {
				s += listed(3, funcs, "\x00") + listed(10, funcs, "\x02\x00\x0b")
			}
			lays(t, m, s, api.OK)
		}
	}
	lays(t, api.Module{Funcs: make([]int, 1000), Codes: make([]api.Code, 999)}, "", api.ErrArg)
	lays(t, api.Module{Funcs: make([]int, 1000), Codes: make([]api.Code, 1001)}, "", api.ErrArg)
}

// 6.1: the function with which a module starts.
func TestPutStart(t *testing.T) {
	lays(t, api.Module{Start: 0}, head, api.OK)
	lays(t, api.Module{Start: 1}, head+"\x08\x01\x00", api.OK)
	lays(t, api.Module{Start: 2}, head+"\x08\x01\x01", api.OK)
	lays(t, api.Module{Start: 129}, head+"\x08\x02\x80\x01", api.OK)
	lays(t, api.Module{Start: most + 1}, head+"\x08\x05\xff\xff\xff\xff\x0f", api.OK)
	for _, n := range []int{most + 2, -1, -2, math.MinInt, math.MaxInt} {
		lays(t, api.Module{Start: n}, "", api.ErrArg)
	}
	lays(t, api.Module{Exports: []api.Export{{}}, Start: 3, Elems: []api.Elem{{}}}, head+"\x07\x04\x01\x00\x00\x00"+"\x08\x01\x02"+"\x09\x05\x01\x00\x00\x0b\x00", api.OK)
}

// 6.1, 6.2: MaxModule bytes, and one more, of each section; what may not be laid is told ahead of what is too much, wherever it stands.
func TestMaxModule(t *testing.T) {
	for i, m := range greats(0) {
		s := plainWriter{}.module(m)
		if len(s) != 65536 {
			t.Errorf("%d: %d bytes", i, len(s))
		}
		lays(t, m, s, api.OK)
	}
	bad := []thing{}
	for i, x := range things() {
		if x.s == "-" && i%5 == 0 {
			bad = append(bad, x)
		}
	}
	for i, m := range greats(1) {
		s := plainWriter{}.module(m)
		if len(s) != 65537 {
			t.Errorf("%d: %d bytes", i, len(s))
		}
		lays(t, m, "", api.ErrFull)
		refused(t, s, api.ErrFull)
		for _, x := range bad {
			lays(t, both(m, x.m), "", api.ErrArg)
			lays(t, both(x.m, m), "", api.ErrArg)
		}
		m.Codes = append(m.Codes, api.Code{})
		lays(t, m, "", api.ErrArg)
	}
	for _, m := range []api.Module{times(datas(api.Data{B: repeat("b", 1<<20)}), 1000), times(coded(api.Code{L: slices.Repeat([]api.Instr{{Op: 0x20, A: most}}, 8192)}), 5), times(elems(api.Elem{F: slices.Repeat([]int{most}, 1000)}), 1000), times(typed(api.FuncType{P: i32(32), R: i32(32)}), 1000), times(imports(api.Import{Mod: repeat("m", 100)}), 1000)} {
		lays(t, m, "", api.ErrFull)
		m.Start = -1
		lays(t, m, "", api.ErrArg)
	}
}

// greats are modules of 65536 bytes, and so many more, most of which are of another section each time.
func greats(n int) []api.Module {
	l := []api.Module{
		{}, full(), times(typed(api.FuncType{P: i32(30), R: i32(30)}), 1000), times(imports(api.Import{Mod: repeat("m", 50)}), 1000), times(globe(api.Global{T: 0x7E, Init: api.Instr{Op: 0x42, A: math.MinInt}}), 1000), times(exports(api.Export{Name: repeat("e", 60)}), 1000),
		times(elems(api.Elem{F: make([]int, 1000)}), 64), times(coded(api.Code{L: slices.Repeat([]api.Instr{{Op: 0x01}}, 8180)}), 8),
	}
	for i := range l {
		// A data more has as many bytes as are missing: its own number has three then, or one.
		m := &l[i]
		m.Datas = append(m.Datas, api.Data{})
		for len(plainWriter{}.module(*m)) < 65536+n {
			m.Datas[len(m.Datas)-1].B += repeat("d", max(1, 65536+n-len(plainWriter{}.module(*m))-8))
		}
	}
	return l
}

// 6.1, 6.3: modules of all kinds, by the chapter's words.
func TestPutMany(t *testing.T) {
	d := dice(6)
	for i := range 3000 {
		m := d.module(1 + i%8)
		lays(t, m, plainWriter{}.module(m), api.OK)
	}
}

// R4: what is handed in is not changed, nor is what lies behind a list's length read or written.
func TestPutKeeps(t *testing.T) {
	d := dice(7)
	for i := range 300 {
		m := d.module(1 + i%8)
		want := plainWriter{}.module(m)
		kept, _ := plainTake(want)
		long := both(m, full())
		cut := api.Module{
			Types: long.Types[:len(m.Types)], Imports: long.Imports[:len(m.Imports)], Funcs: long.Funcs[:len(m.Funcs)], Tables: long.Tables[:len(m.Tables)], Mems: long.Mems[:len(m.Mems)],
			Globals: long.Globals[:len(m.Globals)], Exports: long.Exports[:len(m.Exports)], Start: m.Start, Elems: long.Elems[:len(m.Elems)], Codes: long.Codes[:len(m.Codes)], Datas: long.Datas[:len(m.Datas)],
		}
		lays(t, cut, want, api.OK)
		if !same(cut, kept) || !same(long, both(kept, full())) {
			t.Errorf("changed: %s", shown(m))
		}
	}
	locals, funcs := []int{0x7F, 0x7F, 0x7E, 99}, []int{1, 2, -5}
	m := api.Module{Funcs: funcs[:2], Codes: []api.Code{{Locals: locals[:2]}, {Locals: locals[1:3]}}}
	lays(t, m, head+"\x03\x03\x02\x01\x02"+"\x0a\x0d\x02\x04\x01\x02\x7f\x0b\x06\x02\x01\x7f\x01\x7e\x0b", api.OK)
	if !slices.Equal(locals, []int{0x7F, 0x7F, 0x7E, 99}) || !slices.Equal(funcs, []int{1, 2, -5}) {
		t.Error(locals, funcs)
	}
}
