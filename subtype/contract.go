package subtype

import (
	"strings"

	"scarf/api"
)

// Fits tells whether a component of a contract may stand where another contract is asked for.
func Fits(a, b api.Contract) api.Errno {
	kept := func(text string) (string, bool) { return text, true }
	if e := given(a.Ins, b.Ins, places(a.Res, b.Res, kept)); e != api.OK {
		return e
	}
	return given(b.Outs, a.Outs, places(b.Res, a.Res, kept))
}

// Links tells whether all that a component imports is exported by another one.
func Links(a, b api.Contract) api.Errno {
	exported := func(text string) (string, bool) {
		name, ok := strings.CutPrefix(text, "import ")
		return "export " + name, ok
	}
	return given(a.Ins, b.Outs, places(a.Res, b.Res, exported))
}

// given tells whether each function that is asked for is there, and has the same types by m; or the first fault.
func given(asked, there []api.Sig, m []int) api.Errno {
	var names []string
	for _, s := range there {
		names = append(names, s.Name)
	}
	where := finder(names)
	for _, s := range asked {
		i := where(s.Name)
		if i < 0 {
			return api.ErrName
		}
		if !Sigs(s, there[i], m...) {
			return api.ErrType
		}
	}
	return api.OK
}

// places tells the place of each resource among those that are there: of the first one that has its text, once that is turned, or -1.
func places(texts, there []string, turn func(string) (string, bool)) []int {
	where := finder(there)
	var m []int
	for _, s := range texts {
		at := -1
		if turned, ok := turn(s); ok {
			at = where(turned)
		}
		m = append(m, at)
	}
	return m
}

// finder makes what tells where a text stands first, or -1. It looks through them once: there may be many, and as many may be asked for.
func finder(l []string) func(string) int {
	first := map[string]int{}
	for i, s := range l {
		if _, ok := first[s]; !ok {
			first[s] = i
		}
	}
	return func(s string) int {
		if i, ok := first[s]; ok {
			return i
		}
		return -1
	}
}
