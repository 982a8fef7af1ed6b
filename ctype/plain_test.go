package ctype

import (
	"regexp"
	"strconv"
	"strings"

	"scarf/api"
)

// A second reading of the chapter: whether a type may be is told by going through it several times, how it lies by an image of its bytes, its core types by a letter each.

// plainMay tells whether values may have a type.
func plainMay(t api.Type) bool {
	return plainDepth(t) <= 16 && plainParts(t) <= 500 && plainShaped(t)
}

func plainNone(t api.Type) bool {
	return t.Kind == 0 && len(t.Names)+len(t.L) == 0 && t.R == 0
}

// plainDepth tells how many types stand within one another, itself among them.
func plainDepth(t api.Type) int {
	n := 0
	for _, x := range t.L {
		if !plainNone(x) {
			n = max(n, plainDepth(x))
		}
	}
	return n + 1
}

func plainParts(t api.Type) int {
	n := 1
	for _, x := range t.L {
		if !plainNone(x) {
			n += plainParts(x)
		}
	}
	return n
}

var plainName = regexp.MustCompile(`^([a-z][a-z0-9]*|[A-Z][A-Z0-9]*)(-([a-z][a-z0-9]*|[A-Z][A-Z0-9]*))*$`)

func plainNames(l []string) bool {
	seen := map[string]int{}
	for _, s := range l {
		seen[s]++
		if !plainName.MatchString(s) || len(s) > 100 || seen[s] > 1 {
			return false
		}
	}
	return true
}

func plainShaped(t api.Type) bool {
	const many = 64
	type span struct{ least, most int }
	var names, within span
	r := 0
	none := false
	switch t.Kind {
	case 1, 2, 3, 4, 5, 6, 7, 8, 9, 10, 11:
	case 12, 17:
		within = span{1, 1}
	case 13:
		names, within = span{1, many}, span{len(t.Names), len(t.Names)}
	case 14:
		within = span{1, many}
	case 15:
		names, within = span{1, many}, span{len(t.Names), len(t.Names)}
		none = true
	case 16:
		names = span{1, many}
	case 18:
		within = span{2, 2}
		none = true
	case 19:
		names = span{1, 32}
	case 20, 21:
		r = 1048576
	default:
		return false
	}
	for _, x := range t.L {
		if !(none && plainNone(x)) && !plainShaped(x) {
			return false
		}
	}
	has := func(s span, n int) bool { return s.least <= n && n <= s.most }
	return has(names, len(t.Names)) && has(within, len(t.L)) && has(span{0, r}, t.R) && plainNames(t.Names)
}

func plainSigMay(s api.Sig) bool {
	if len(s.P) > 64 || len(s.P) != len(s.T) || !plainNames(s.P) || !plainNone(s.R) && !plainMay(s.R) {
		return false
	}
	for _, t := range s.T {
		if !plainMay(t) {
			return false
		}
	}
	return true
}

// image is a byte for each byte of a type, a . where nothing lies; a type's alignment; where its fields, or what is in a case, begin.
type image struct {
	bytes string
	align int
	at    []int
}

// pad puts nothing at an image's end, until another one may begin there.
func (m *image) pad(align int) {
	for len(m.bytes)%align != 0 {
		m.bytes += "."
	}
}

// add puts another image at an image's end.
func (m *image) add(x image) {
	m.pad(x.align)
	m.at = append(m.at, len(m.bytes))
	m.bytes += x.bytes
	m.align = max(m.align, x.align)
}

func imageOf(t api.Type) image {
	switch t.Kind {
	case 0:
		return image{align: 1}
	case api.TBool, api.TU8, api.TS8:
		return image{bytes: "b", align: 1}
	case api.TU16, api.TS16:
		return image{bytes: "bb", align: 2}
	case api.TU32, api.TS32, api.TChar, api.TOwn, api.TBorrow:
		return image{bytes: "bbbb", align: 4}
	case api.TU64, api.TS64:
		return image{bytes: "bbbbbbbb", align: 8}
	case api.TString, api.TList:
		return image{bytes: "aaaallll", align: 4}
	case api.TFlags:
		n := 1
		for 8*n < len(t.Names) {
			n *= 2
		}
		return image{bytes: strings.Repeat("f", n), align: n}
	case api.TRecord, api.TTuple:
		m := image{align: 1}
		for _, x := range t.L {
			m.add(imageOf(x))
		}
		m.pad(m.align)
		return m
	case api.TOption:
		return imageOfCases(api.Type{}, t.L[0])
	case api.TResult, api.TVariant:
		return imageOfCases(t.L...)
	}
	return imageOfCases(make([]api.Type, len(t.Names))...)
}

func imageOfCases(l ...api.Type) image {
	in := image{align: 1}
	for _, x := range l {
		m := imageOf(x)
		in.align = max(in.align, m.align)
		if len(m.bytes) > len(in.bytes) {
			in.bytes = m.bytes
		}
	}
	m := image{bytes: "c", align: 1}
	m.add(in)
	m.pad(m.align)
	return m
}

// plainFlat tells a type's core types by a letter each.
func plainFlat(t api.Type) string {
	switch t.Kind {
	case 0:
		return ""
	case api.TU64, api.TS64:
		return "l"
	case api.TString, api.TList:
		return "ii"
	case api.TRecord, api.TTuple:
		return plainFlats(t.L)
	case api.TOption, api.TResult, api.TVariant:
		var l []string
		longest := 0
		for _, x := range t.L {
			l = append(l, plainFlat(x))
			longest = max(longest, len(plainFlat(x)))
		}
		out := "i"
		for i := range longest {
			seen := ""
			for _, s := range l {
				if i < len(s) {
					seen += s[i : i+1]
				}
			}
			if strings.Trim(seen, "i") == "" {
				out += "i"
			} else {
				out += "l" // of l alone it is l, and of both
			}
		}
		return out
	}
	return "i"
}

func plainFlats(l []api.Type) string {
	s := ""
	for _, x := range l {
		s += plainFlat(x)
	}
	return s
}

// plainCore tells a function's core type: its arguments, a blank, and what it gives.
func plainCore(s api.Sig, lower bool) string {
	in, out := plainFlats(s.T), plainFlat(s.R)
	if len(in) > 16 {
		in = "i"
	}
	switch {
	case len(out) > 1 && lower:
		return in + "i "
	case len(out) > 1:
		return in + " i"
	}
	return in + " " + out
}

// plainPlain tells a type that is made of others as a record, or a variant.
func plainPlain(t api.Type) api.Type {
	switch t.Kind {
	case api.TTuple:
		p := api.Type{Kind: api.TRecord, L: t.L}
		for len(p.Names) < len(t.L) {
			p.Names = append(p.Names, strconv.Itoa(len(p.Names)))
		}
		return p
	case api.TEnum:
		p := api.Type{Kind: api.TVariant, Names: t.Names}
		for range t.Names {
			p.L = append(p.L, api.Type{})
		}
		return p
	case api.TOption:
		return api.Type{Kind: api.TVariant, Names: strings.Fields("none some"), L: append([]api.Type{{}}, t.L...)}
	case api.TResult:
		return api.Type{Kind: api.TVariant, Names: strings.Fields("ok error"), L: t.L}
	}
	return t
}
