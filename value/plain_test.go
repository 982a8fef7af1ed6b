package value

import (
	"fmt"
	"math/big"
	"regexp"
	"strings"

	"scarf/api"
	"scarf/ctype"
)

// A second reading of the chapter: a value is told by going through it several times, kind by kind; its text is put together by formats, and its handles are taken out of that.

// plainError tells what Check answers.
func plainError(t api.Type, v api.Val) api.Errno {
	if ctype.Check(t) != api.OK {
		return api.ErrArg
	}
	if !plainIs(t, v) || plainParts(v) > 4000 {
		return api.ErrType
	}
	return api.OK
}

// plainArgs tells what Args answers.
func plainArgs(s api.Sig, l []api.Val) api.Errno {
	if ctype.CheckSig(s) != api.OK {
		return api.ErrArg
	}
	parts := 0
	for i, v := range l {
		if i >= len(s.T) || !plainIs(s.T[i], v) {
			return api.ErrType
		}
		parts += plainParts(v)
	}
	if len(l) < len(s.T) || parts > 3999 {
		return api.ErrType
	}
	return api.OK
}

func plainParts(v api.Val) int {
	n := 1 + len(v.S)
	for _, x := range v.L {
		n += plainParts(x)
	}
	return n
}

// plainFields tells which fields a kind's values have: n, s, l.
func plainFields(kind int) string {
	switch kind {
	case api.TString:
		return "s"
	case api.TList, api.TRecord, api.TTuple:
		return "l"
	case api.TVariant, api.TOption, api.TResult:
		return "nl"
	}
	return "n"
}

func plainIs(t api.Type, v api.Val) bool {
	fields := plainFields(t.Kind)
	if v.N != 0 && !strings.Contains(fields, "n") || len(v.S) > 0 && fields != "s" || len(v.L) > 0 && !strings.Contains(fields, "l") {
		return false
	}
	each := func(types ...api.Type) bool {
		if len(types) != len(v.L) {
			return false
		}
		for i := range types {
			if !plainIs(types[i], v.L[i]) {
				return false
			}
		}
		return true
	}
	switch t.Kind {
	case api.TString:
		for _, c := range v.S {
			if !plainChar(c) {
				return false
			}
		}
		return len(v.S) < 1001
	case api.TList:
		return len(v.L) < 1001 && each(times(len(v.L), t.L[0])...)
	case api.TRecord, api.TTuple:
		return each(t.L...)
	case api.TOption:
		return v.N == 0 && each() || v.N == 1 && each(t.L...)
	case api.TResult, api.TVariant:
		if v.N < 0 || v.N >= len(t.L) {
			return false
		}
		if t.L[v.N].Kind == 0 {
			return each()
		}
		return each(t.L[v.N])
	}
	return plainNumber(t, big.NewInt(int64(v.N)))
}

func plainChar(c int) bool { return c >= 0 && c < 0x110000 && c/0x800 != 0x1B }

// plainNumber tells whether there are as many numbers of a type as it takes, with this one among them.
func plainNumber(t api.Type, n *big.Int) bool {
	bits, signed := 0, false
	switch t.Kind {
	case api.TBool:
		bits = 1
	case api.TS8, api.TS16, api.TS32, api.TS64, api.TU64:
		bits, signed = map[int]int{api.TS8: 8, api.TS16: 16, api.TS32: 32, api.TS64: 64, api.TU64: 64}[t.Kind], true
	case api.TU8:
		bits = 8
	case api.TU16:
		bits = 16
	case api.TU32, api.TOwn, api.TBorrow:
		bits = 32
	case api.TFlags:
		bits = len(t.Names)
	case api.TEnum:
		return n.Sign() >= 0 && n.Cmp(big.NewInt(int64(len(t.Names)))) < 0
	case api.TChar:
		return plainChar(int(n.Int64()))
	}
	if signed {
		n = new(big.Int).Add(n, new(big.Int).Lsh(big.NewInt(1), uint(bits-1)))
	}
	return n.Sign() >= 0 && n.BitLen() <= bits
}

// plainText tells the text of a value that is one of the type.
func plainText(t api.Type, v api.Val) string {
	of := func(format, between string) string {
		var l []string
		for i, x := range v.L {
			y := t.L[0]
			if t.Kind != api.TList {
				y = t.L[i]
			}
			s := plainText(y, x)
			if t.Kind == api.TRecord {
				s = t.Names[i] + ": " + s
			}
			l = append(l, s)
		}
		return fmt.Sprintf(format, strings.Join(l, between))
	}
	variant := func(names []string, l ...api.Type) string {
		if len(v.L) == 0 {
			return names[v.N]
		}
		return fmt.Sprintf("%s(%s)", names[v.N], plainText(l[v.N], v.L[0]))
	}
	switch t.Kind {
	case api.TBool:
		return fmt.Sprint(v.N != 0)
	case api.TU64:
		return fmt.Sprintf("%d", uint64(v.N))
	case api.TChar:
		return fmt.Sprintf("U+%X", v.N)
	case api.TString:
		return plainQuoted(v.S)
	case api.TList:
		return of("[%s]", ", ")
	case api.TTuple:
		return of("(%s)", ", ")
	case api.TRecord:
		return of("{%s}", ", ")
	case api.TFlags:
		s := ""
		for i, name := range t.Names {
			if v.N/(1<<i)%2 == 1 {
				s += ", " + name
			}
		}
		return "{" + strings.TrimPrefix(s, ", ") + "}"
	case api.TEnum:
		return t.Names[v.N]
	case api.TVariant:
		return variant(t.Names, t.L...)
	case api.TOption:
		return variant([]string{"none", "some"}, nothing, t.L[0])
	case api.TResult:
		return variant([]string{"ok", "error"}, t.L...)
	case api.TOwn, api.TBorrow:
		return fmt.Sprintf("#%d", v.N)
	}
	return fmt.Sprint(v.N)
}

func plainQuoted(l []int) string {
	s := ""
	for _, c := range l {
		if c >= 32 && c <= 126 && c != 34 && c != 92 {
			s += string(rune(c))
		} else {
			s += fmt.Sprintf("\\u{%x}", c)
		}
	}
	return "\"" + s + "\""
}

// Within quotes there is no quote, and outside of them # only ahead of a handle's number.
var quoted, numbered = regexp.MustCompile(`"[^"]*"`), regexp.MustCompile(`#[0-9]+`)

// plainNumbers tells the numbers of handles, as texts, as they stand in a value's text.
func plainNumbers(s string) []string {
	return numbered.FindAllString(quoted.ReplaceAllString(s, ""), -1)
}

// plainTypes tells the types of the handles of a value that is one of the type.
func plainTypes(t api.Type, v api.Val) []api.Type {
	if t.Kind == api.TOwn || t.Kind == api.TBorrow {
		return []api.Type{t}
	}
	var out []api.Type
	for i, x := range v.L {
		y := api.Type{}
		switch t.Kind {
		case api.TList, api.TOption:
			y = t.L[0]
		case api.TRecord, api.TTuple:
			y = t.L[i]
		default:
			y = t.L[v.N]
		}
		out = append(out, plainTypes(y, x)...)
	}
	return out
}
