package wit

import (
	"strings"

	"scarf/api"
	"scarf/lex"
)

// Check tells whether a package may be written.
func Check(p api.Package) api.Errno {
	if lex.Name(p.Space) && lex.Name(p.Name) && mayVersion(p.Version) && all(p.Ifaces, mayIface) && all(p.Worlds, mayWorld) {
		return api.OK
	}
	return api.ErrArg
}

// all tells whether a list has no more things than it may, each of which may be.
func all[T any](l []T, may func(T) bool) bool {
	if len(l) > api.MaxNames {
		return false
	}
	for _, x := range l {
		if !may(x) {
			return false
		}
	}
	return true
}

func mayVersion(s string) bool { return s == "" || lex.Version(s) }

func mayIface(i api.Iface) bool {
	return lex.Name(i.Name) && all(i.Uses, mayUse) && all(i.Defs, mayDef) && all(i.F, mayFree)
}

func mayWorld(w api.World) bool {
	return lex.Name(w.Name) && all(w.Uses, mayUse) && all(w.Defs, mayDef) && all(w.Ins, mayPort) && all(w.Outs, mayPort)
}

func mayUse(u api.Use) bool {
	if len(u.Names) == 0 || len(u.As) != len(u.Names) {
		return false
	}
	as := func(s string) bool { return s == "" || lex.Name(s) }
	return mayPath(u.From) && all(u.Names, lex.Name) && all(u.As, as)
}

func mayPath(p api.Path) bool {
	if p.Pkg == "" {
		return p.Version == "" && lex.Name(p.Name)
	}
	space, name, ok := strings.Cut(p.Pkg, ":")
	return ok && lex.Name(space) && lex.Name(name) && lex.Name(p.Name) && mayVersion(p.Version)
}

func mayPort(p api.Port) bool {
	if p.From == (api.Path{}) {
		return mayFree(p.F)
	}
	f := p.F
	return mayPath(p.From) && f.Name == "" && f.Kind == 0 && len(f.P) == 0 && len(f.T) == 0 && isNone(f.R)
}

func mayDef(d api.Def) bool {
	if !lex.Name(d.Name) {
		return false
	}
	if d.Kind == api.DefResource {
		return isNone(d.T) && all(d.F, mayOwned)
	}
	if len(d.F) > 0 {
		return false
	}
	switch d.Kind {
	case api.DefType:
		return mayStand(d.T)
	case api.DefRecord:
		return mayHave(d.T, api.TRecord) && len(d.T.L) == len(d.T.Names) && all(d.T.L, mayStand)
	case api.DefVariant:
		return mayHave(d.T, api.TVariant) && len(d.T.L) == len(d.T.Names) && all(d.T.L, orNone(mayStand))
	case api.DefEnum:
		return mayHave(d.T, api.TEnum) && len(d.T.L) == 0
	case api.DefFlags:
		return mayHave(d.T, api.TFlags) && len(d.T.L) == 0
	}
	return false
}

// mayHave tells whether a definition's type is of a kind, and has names as it has to.
func mayHave(t api.Type, kind int) bool {
	return t.Kind == kind && t.R == 0 && len(t.Names) > 0 && all(t.Names, lex.Name)
}

// mayFree tells whether a function may stand in an interface, or be a port.
func mayFree(f api.Func) bool {
	return f.Kind == api.FuncFree && lex.Name(f.Name) && mayTypes(f)
}

// mayOwned tells whether a function may be a resource's.
func mayOwned(f api.Func) bool {
	switch f.Kind {
	case api.FuncMake:
		return f.Name == "" && isNone(f.R) && mayTypes(f)
	case api.FuncMethod, api.FuncStatic:
		return lex.Name(f.Name) && mayTypes(f)
	}
	return false
}

// mayTypes tells whether a function may take what it takes, and give what it gives.
func mayTypes(f api.Func) bool {
	return len(f.P) == len(f.T) && all(f.P, lex.Name) && all(f.T, mayStand) && orNone(mayStand)(f.R)
}

// mayStand tells whether a type may stand within no other.
func mayStand(t api.Type) bool { return mayNest(t, 0) }

// mayNest tells whether a type may stand within as many others.
func mayNest(t api.Type, deep int) bool {
	if deep == api.MaxDeep || t.R != 0 {
		return false
	}
	within := func(t api.Type) bool { return mayNest(t, deep+1) }
	switch t.Kind {
	case api.TOwn, api.TBorrow, api.TNamed:
		return len(t.L) == 0 && len(t.Names) == 1 && lex.Name(t.Names[0])
	case api.TList, api.TOption:
		return len(t.Names) == 0 && len(t.L) == 1 && within(t.L[0])
	case api.TTuple:
		return len(t.Names) == 0 && len(t.L) > 0 && all(t.L, within)
	case api.TResult:
		return len(t.Names) == 0 && len(t.L) == 2 && all(t.L, orNone(within))
	}
	return api.TBool <= t.Kind && t.Kind <= api.TString && len(t.Names) == 0 && len(t.L) == 0
}

// orNone makes of what tells which types may be what lets none be, too.
func orNone(may func(api.Type) bool) func(api.Type) bool {
	return func(t api.Type) bool { return isNone(t) || may(t) }
}
