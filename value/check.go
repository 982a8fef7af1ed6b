package value

import (
	"math"

	"scarf/api"
	"scarf/ctype"
	"scarf/utf"
)

// Check tells whether a value is one of a type.
func Check(t api.Type, v api.Val) api.Errno {
	if e := ctype.Check(t); e != api.OK {
		return e
	}
	c := counter{left: MaxParts}
	if !c.of(plain(t), v) {
		return api.ErrType
	}
	return api.OK
}

// Args tells whether values may be a function's arguments.
func Args(s api.Sig, l ...api.Val) api.Errno {
	if e := ctype.CheckSig(s); e != api.OK {
		return e
	}
	if len(l) != len(s.T) {
		return api.ErrType
	}
	c := counter{left: MaxParts - 1} // together they are the values of one tuple
	for i, v := range l {
		if !c.of(plain(s.T[i]), v) {
			return api.ErrType
		}
	}
	return api.OK
}

// counter counts how many values and characters there may be still.
type counter struct{ left int }

// of tells whether a value is one of a plain type. Values that are too many are not gone into: what is given may have no end.
func (c *counter) of(t api.Type, v api.Val) bool {
	c.left -= 1 + len(v.S)
	if c.left < 0 || !shaped(t, v) {
		return false
	}
	for i, x := range v.L {
		if !c.of(within(t, v, i), x) {
			return false
		}
	}
	return true
}

// shaped tells whether a value has such a number, such characters, and as many values, as its plain type asks for.
func shaped(t api.Type, v api.Val) bool {
	if len(v.S) > 0 && t.Kind != api.TString {
		return false
	}
	switch t.Kind {
	case api.TString:
		return v.N == 0 && isText(v.S) && len(v.L) == 0
	case api.TList:
		return v.N == 0 && len(v.L) <= MaxItems
	case api.TRecord, api.TTuple:
		return v.N == 0 && len(v.L) == len(t.L)
	case api.TVariant:
		return v.N >= 0 && v.N < len(t.L) && len(v.L) == held(t.L[v.N])
	}
	return isNumber(t, v.N) && len(v.L) == 0
}

// isText tells whether numbers are a text's characters.
func isText(l []int) bool {
	for _, c := range l {
		if !utf.Scalar(c) {
			return false
		}
	}
	return len(l) <= MaxItems
}

// held tells how many values are in a case.
func held(t api.Type) int {
	if t.Kind == 0 {
		return 0
	}
	return 1
}

// isNumber tells whether a value of a type that is not made of others may have a number.
func isNumber(t api.Type, n int) bool {
	switch t.Kind {
	case api.TBool:
		return bits(n, 1)
	case api.TS8:
		return n >= math.MinInt8 && n <= math.MaxInt8
	case api.TU8:
		return bits(n, 8)
	case api.TS16:
		return n >= math.MinInt16 && n <= math.MaxInt16
	case api.TU16:
		return bits(n, 16)
	case api.TS32:
		return n >= math.MinInt32 && n <= math.MaxInt32
	case api.TU32, api.TOwn, api.TBorrow:
		return bits(n, 32)
	case api.TChar:
		return utf.Scalar(n)
	case api.TFlags:
		return bits(n, len(t.Names))
	}
	return t.Kind == api.TS64 || t.Kind == api.TU64
}

// bits tells whether a number has no bits but the lowest ones.
func bits(n, lowest int) bool { return n>>lowest == 0 }
