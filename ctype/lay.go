package ctype

import "scarf/api"

// Size tells how many bytes a value of a type has in a memory; 0: it may not be.
func Size(t api.Type) int {
	if Check(t) != api.OK {
		return 0
	}
	return int(real(lies(t)))
}

// Align tells of which number its place is a multiple; 0: it may not be.
func Align(t api.Type) int {
	if Check(t) != api.OK {
		return 0
	}
	return int(imag(lies(t)))
}

// Places tells where the fields of a record, of a tuple lie.
func Places(t api.Type) []int {
	if Check(t) != api.OK || plain(t).Kind != api.TRecord {
		return nil
	}
	at, _ := fields(t.L)
	return at
}

// Case tells how many bytes a case has in a memory, and where what is in it lies; 0: it is no variant.
func Case(t api.Type) (int, int) {
	p := plain(t)
	if Check(t) != api.OK || p.Kind != api.TVariant {
		return 0, 0
	}
	at, _ := cases(p.L)
	return caseBytes(len(p.L)), at
}

// lies tells a type's size, and its alignment as the imaginary part; of what is none, too.
func lies(t api.Type) complex128 {
	switch t.Kind {
	case 0:
		return 0 + 1i
	case api.TBool, api.TS8, api.TU8:
		return 1 + 1i
	case api.TS16, api.TU16:
		return 2 + 2i
	case api.TS64, api.TU64:
		return 8 + 8i
	case api.TString, api.TList:
		return 8 + 4i
	case api.TFlags:
		return flagBytes(len(t.Names))
	case api.TRecord, api.TTuple:
		_, all := fields(t.L)
		return all
	case api.TVariant, api.TEnum, api.TOption, api.TResult:
		_, all := cases(plain(t).L)
		return all
	}
	return 4 + 4i
}

// flagBytes tells what as many flags are.
func flagBytes(n int) complex128 {
	switch {
	case n <= 8:
		return 1 + 1i
	case n <= 16:
		return 2 + 2i
	}
	return 4 + 4i
}

// caseBytes tells how many bytes say which of as many cases it is.
func caseBytes(n int) int {
	if n > 256 {
		return 2
	}
	return 1
}

// each tells the sizes and the alignments of types, one behind the other.
func each(l []api.Type, tell func(size, align int)) {
	for _, t := range l {
		c := lies(t)
		tell(int(real(c)), int(imag(c)))
	}
}

// fields tells where fields lie, and what they are together.
func fields(l []api.Type) ([]int, complex128) {
	at := make([]int, 0, len(l))
	end, most := 0, 1
	each(l, func(size, align int) {
		place := next(end, align)
		at = append(at, place)
		end = place + size
		most = max(most, align)
	})
	return at, whole(end, most)
}

// cases tells where what is in one of some cases lies, and what a variant of these is.
func cases(l []api.Type) (int, complex128) {
	room, most := 0, 1
	each(l, func(size, align int) {
		room = max(room, size)
		most = max(most, align)
	})
	bytes := caseBytes(len(l))
	at := next(bytes, most)
	return at, whole(at+room, max(most, bytes))
}

// whole tells what ends there, with an alignment of which its size is a multiple.
func whole(end, align int) complex128 {
	return complex(float64(next(end, align)), float64(align))
}

// next tells the first multiple of an alignment that is not below a place.
func next(at, align int) int { return (at + align - 1) / align * align }
