package ctype

import "scarf/api"

// Flat tells the core types of a type.
func Flat(t api.Type) []int {
	if Check(t) != api.OK {
		return nil
	}
	return core(t)
}

// Args tells the core types of a function's arguments.
func Args(s api.Sig) []int {
	if CheckSig(s) != api.OK {
		return nil
	}
	return behind(s.T)
}

// Core tells the core type of a function: as a core function that is lifted, or (lower) as one that is called by a core module.
func Core(s api.Sig, lower bool) (api.FuncType, api.Errno) {
	if e := CheckSig(s); e != api.OK {
		return api.FuncType{}, e
	}
	f := api.FuncType{P: behind(s.T), R: core(s.R)}
	if len(f.P) > MaxFlat {
		f.P = []int{api.I32}
	}
	if len(f.R) <= 1 {
		return f, api.OK
	}
	if lower { // what is given lies where the caller says
		return api.FuncType{P: append(f.P, api.I32)}, api.OK
	}
	f.R = []int{api.I32}
	return f, api.OK
}

// core tells the core types of a type; of what is none, too.
func core(t api.Type) []int {
	switch t.Kind {
	case 0:
		return nil
	case api.TS64, api.TU64:
		return []int{api.I64}
	case api.TString, api.TList:
		return []int{api.I32, api.I32}
	case api.TRecord, api.TTuple:
		return behind(t.L)
	case api.TVariant, api.TEnum, api.TOption, api.TResult:
		return over(plain(t).L)
	}
	return []int{api.I32}
}

// behind tells the core types of types, one behind the other.
func behind(l []api.Type) []int {
	var out []int
	for _, t := range l {
		out = append(out, core(t)...)
	}
	return out
}

// over tells the core types of cases, one over the other, behind that of the case's number.
func over(l []api.Type) []int {
	out := []int{api.I32}
	for _, t := range l {
		for i, c := range core(t) {
			place := i + 1
			if place == len(out) {
				out = append(out, c)
			} else if out[place] != c {
				out[place] = api.I64
			}
		}
	}
	return out
}
