package subtype

import (
	"strconv"
	"strings"

	"scarf/api"
)

// A second reading of the chapter: a type is spelled as a text, in which a resource is told by a function; two that are the same are spelled alike.

func spell(t api.Type, resource func(int) string) string {
	r := strconv.Itoa(t.R)
	if t.Kind == 20 || t.Kind == 21 {
		r = resource(t.R)
	}
	s := strconv.Itoa(t.Kind) + " " + r + " " + quoted(t.Names) + "("
	for _, x := range t.L {
		s += spell(x, resource)
	}
	return s + ")"
}

func quoted(l []string) string {
	s := "["
	for _, x := range l {
		s += strconv.Quote(x)
	}
	return s + "]"
}

// turned tells what a number is that is turned by m; itself what one is that is not, but none below 0.
func turned(m []int) func(int) string {
	return func(r int) string {
		for i, n := range m {
			if i == r {
				return strconv.Itoa(n)
			}
		}
		return "no place"
	}
}

func itself(r int) string {
	if r < 0 {
		return "below 0"
	}
	return strconv.Itoa(r)
}

func plainSame(a, b api.Type, m []int) bool {
	return spell(a, turned(m)) == spell(b, itself)
}

func plainSigs(a, b api.Sig, m []int) bool {
	all := func(s api.Sig, resource func(int) string) string {
		x := quoted(s.P)
		for _, t := range append(append([]api.Type{}, s.T...), s.R) {
			x += spell(t, resource) + ";"
		}
		return x
	}
	return all(a, turned(m)) == all(b, itself)
}

func plainFits(a, b api.Contract) api.Errno {
	e := plainAll(a.Ins, b.Ins, a.Res, b.Res, "", "")
	if e == api.OK {
		e = plainAll(b.Outs, a.Outs, b.Res, a.Res, "", "")
	}
	return e
}

func plainLinks(a, b api.Contract) api.Errno {
	return plainAll(a.Ins, b.Outs, a.Res, b.Res, "import ", "export ")
}

// plainAll asks for functions among others; a resource's text begins with the one word, another one's with the other one.
func plainAll(asked, there []api.Sig, res, others []string, word, other string) api.Errno {
	m := make([]int, len(res))
	for i, s := range res {
		m[i] = -1
		for k := len(others) - 1; k >= 0; k-- {
			x := others[k]
			if strings.HasPrefix(s, word) && strings.HasPrefix(x, other) && s[len(word):] == x[len(other):] {
				m[i] = k
			}
		}
	}
next:
	for _, f := range asked {
		for _, g := range there {
			if f.Name != g.Name {
				continue
			}
			if !plainSigs(f, g, m) {
				return api.ErrType
			}
			continue next
		}
		return api.ErrName
	}
	return api.OK
}
