package ctype

import (
	"slices"

	"scarf/api"
	"scarf/lex"
)

// maxFlags is how many names flags have at most: as many as a core value has bits.
const maxFlags = 32

// Check tells whether values may have a type.
func Check(t api.Type) api.Errno {
	c := counter{}
	if !c.may(t, 0) {
		return api.ErrArg
	}
	return api.OK
}

// CheckSig tells whether a function may have such types.
func CheckSig(s api.Sig) api.Errno {
	if len(s.P) > api.MaxNames || len(s.T) != len(s.P) || !differ(s.P) {
		return api.ErrArg
	}
	for _, t := range s.T {
		if e := Check(t); e != api.OK {
			return e
		}
	}
	if none(s.R) {
		return api.OK
	}
	return Check(s.R)
}

// counter counts the types that one is made of.
type counter struct{ parts int }

// may tells whether a type may be that stands within some others. Types that are too deep, or too many, are not gone into: what is given may have no end.
func (c *counter) may(t api.Type, around int) bool {
	c.parts++
	if c.parts > api.MaxParts || around >= api.MaxDeep || !shaped(t) || !differ(t.Names) {
		return false
	}
	mayNone := t.Kind == api.TVariant || t.Kind == api.TResult
	for _, x := range t.L {
		if mayNone && none(x) {
			continue
		}
		if !c.may(x, around+1) {
			return false
		}
	}
	return true
}

// none tells whether there is no type.
func none(t api.Type) bool {
	return t.Kind == 0 && t.R == 0 && len(t.Names) == 0 && len(t.L) == 0
}

// shaped tells whether a type has as many names, and types within, as its kind asks for, and a number that may be.
func shaped(t api.Type) bool {
	names, within, most := len(t.Names), len(t.L), 0
	ok := false
	switch t.Kind {
	case api.TList, api.TOption:
		ok = names == 0 && within == 1
	case api.TTuple:
		ok = names == 0 && within >= 1 && within <= api.MaxNames
	case api.TResult:
		ok = names == 0 && within == 2
	case api.TRecord, api.TVariant:
		ok = names >= 1 && names <= api.MaxNames && within == names
	case api.TEnum:
		ok = names >= 1 && names <= api.MaxNames && within == 0
	case api.TFlags:
		ok = names >= 1 && names <= maxFlags && within == 0
	case api.TOwn, api.TBorrow:
		ok = names == 0 && within == 0
		most = MaxRes
	default:
		ok = t.Kind >= api.TBool && t.Kind <= api.TString && names == 0 && within == 0
	}
	return ok && t.R >= 0 && t.R <= most
}

// differ tells whether all of some texts are names, none of them twice.
func differ(l []string) bool {
	for i, s := range l {
		if !lex.Name(s) || slices.Contains(l[:i], s) {
			return false
		}
	}
	return true
}
