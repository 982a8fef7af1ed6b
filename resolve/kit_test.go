package resolve

import (
	"slices"
	"strconv"
	"strings"
	"testing"

	"scarf/api"
	"scarf/wit"
)

// packs reads packages' texts.
func packs(t *testing.T, texts ...string) []api.Package {
	t.Helper()
	var l []api.Package
	for _, s := range texts {
		p, at, e := wit.Parse(s)
		if e != api.OK {
			t.Fatalf("%d at %d of %d bytes: %.60s", e, at, len(s), s[at:])
		}
		l = append(l, p)
	}
	return l
}

// word tells a type of a contract as a text.
func word(t api.Type) string {
	within := func(from int) string {
		var l []string
		for i := from; i < max(len(t.L), len(t.Names)); i++ {
			s := ""
			switch t.Kind {
			case api.TRecord:
				s = t.Names[i] + ": " + word(t.L[i])
			case api.TVariant:
				s = t.Names[i]
				if t.L[i].Kind != 0 {
					s += "(" + word(t.L[i]) + ")"
				}
			case api.TEnum, api.TFlags:
				s = t.Names[i]
			default:
				s = word(t.L[i])
			}
			l = append(l, s)
		}
		return strings.Join(l, ", ")
	}
	kinds := []string{"_", "bool", "s8", "u8", "s16", "u16", "s32", "u32", "s64", "u64", "char", "string", "list", "record", "tuple", "variant", "enum", "option", "result", "flags", "own ", "borrow "}
	switch t.Kind {
	case api.TOwn, api.TBorrow:
		return kinds[t.Kind] + strconv.Itoa(t.R)
	case api.TRecord, api.TVariant, api.TEnum, api.TFlags:
		return kinds[t.Kind] + "{" + within(0) + "}"
	case api.TList, api.TTuple, api.TOption, api.TResult:
		return kinds[t.Kind] + "<" + within(0) + ">"
	}
	return kinds[t.Kind]
}

// told tells a contract as lines.
func told(c api.Contract) []string {
	l := slices.Clone(c.Res)
	sigs := func(head string, all []api.Sig) {
		for _, s := range all {
			line := head + s.Name + "("
			for i, p := range s.P {
				line += ", "[:2*min(i, 1)] + p + ": " + word(s.T[i])
			}
			line += ")"
			if s.R.Kind != 0 {
				line += " -> " + word(s.R)
			}
			l = append(l, line)
		}
	}
	sigs("in ", c.Ins)
	sigs("out ", c.Outs)
	return l
}

// bare tells whether a type names nothing, and has no field that its kind does not.
func bare(t api.Type, res int) bool {
	names := t.Kind == api.TRecord || t.Kind == api.TVariant || t.Kind == api.TEnum || t.Kind == api.TFlags
	handle := t.Kind == api.TOwn || t.Kind == api.TBorrow
	if t.Kind < 1 || t.Kind > api.TBorrow || names != (len(t.Names) > 0) || !handle && t.R != 0 || handle && (t.R < 0 || t.R >= res) {
		return false
	}
	some := 0
	switch t.Kind {
	case api.TList, api.TOption:
		some = 1
	case api.TResult:
		some = 2
	case api.TRecord, api.TVariant:
		some = len(t.Names)
	case api.TTuple:
		some = max(1, len(t.L))
	}
	mayNone := t.Kind == api.TResult || t.Kind == api.TVariant
	for _, x := range t.L {
		if !bare(x, res) && !(mayNone && isZero(x)) {
			return false
		}
	}
	return len(t.L) == some
}

func isZero(t api.Type) bool {
	return t.Kind == 0 && len(t.Names) == 0 && len(t.L) == 0 && t.R == 0
}

// isBare tells whether a contract is as 12.2 says.
func isBare(c api.Contract) bool {
	for _, s := range slices.Concat(c.Ins, c.Outs) {
		if len(s.P) != len(s.T) || !isZero(s.R) && !bare(s.R, len(c.Res)) {
			return false
		}
		for _, t := range s.T {
			if !bare(t, len(c.Res)) {
				return false
			}
		}
	}
	return true
}

func isEmpty(c api.Contract) bool { return len(c.Res) == 0 && len(c.Ins) == 0 && len(c.Outs) == 0 }

// is looks whether a world comes to what lines tell.
func is(t *testing.T, all []api.Package, pkg int, name string, want ...string) {
	t.Helper()
	c, e := World(all, pkg, name)
	if e != api.OK || !isBare(c) || !slices.Equal(told(c), want) {
		t.Errorf("%s: %d\n%s\nnot\n%s", name, e, strings.Join(told(c), "\n"), strings.Join(want, "\n"))
	}
}

// comes looks likewise at the world w of the first one of packages that are written.
func comes(t *testing.T, texts []string, want ...string) {
	t.Helper()
	is(t, packs(t, texts...), 0, "w", want...)
}

// faults looks whether a world has a fault, and nothing else is answered.
func faults(t *testing.T, what string, all []api.Package, pkg int, name string, want api.Errno) {
	t.Helper()
	if c, e := World(all, pkg, name); e != want || !isEmpty(c) {
		t.Errorf("%s: %d, not %d; %v", what, e, want, told(c))
	}
}

// fails looks likewise at the world w of the first one of packages that are written.
func fails(t *testing.T, want api.Errno, texts ...string) {
	t.Helper()
	what := strings.Join(texts, "\n")
	faults(t, what[:min(400, len(what))], packs(t, texts...), 0, "w", want)
}

// times repeats a text, in which each # is its number.
func times(n int, s string) string {
	out := ""
	for i := range n {
		out += strings.ReplaceAll(s, "#", strconv.Itoa(i))
	}
	return out
}
