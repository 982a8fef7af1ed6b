package resolve

import (
	"slices"

	"scarf/api"
)

// scope is where names are looked up: an interface, or the world itself.
type scope struct {
	pkg   int    // the number of its package
	key   string // an interface's; the world itself has none
	out   bool   // whether its resources are those that the world exports
	uses  []api.Use
	defs  []api.Def
	funcs []api.Func // an interface's
}

// prefix tells what stands ahead of a function's name.
func (s scope) prefix() string {
	if s.key == "" {
		return ""
	}
	return s.key + "#"
}

// fullName tells a package's full name, as a path to no interface.
func fullName(p api.Package) api.Path {
	return api.Path{Pkg: p.Space + ":" + p.Name, Version: p.Version}
}

// key tells the key of the interface to which a whole path leads.
func key(p api.Path) string {
	s := p.Pkg + "/" + p.Name
	if p.Version != "" {
		s += "@" + p.Version
	}
	return s
}

// whole tells a path with its package, be that the one from which it is looked up.
func (r *resolver) whole(pkg int, p api.Path) api.Path {
	if p.Pkg != "" {
		return p
	}
	full := fullName(r.all[pkg])
	full.Name = p.Name
	return full
}

// look tells the interface to which a path leads from a package.
func (r *resolver) look(pkg int, p api.Path) (scope, bool) {
	p = r.whole(pkg, p)
	at, ok := r.places[api.Path{Pkg: p.Pkg, Version: p.Version}]
	if !ok {
		return scope{}, false
	}
	l := r.all[at].Ifaces
	i := slices.IndexFunc(l, func(x api.Iface) bool { return x.Name == p.Name })
	if i < 0 {
		return scope{}, false
	}
	return scope{pkg: at, key: key(p), uses: l[i].Uses, defs: l[i].Defs, funcs: l[i].F}, true
}

// number tells the number of a scope's resource: the next one, when it is first asked for.
func (r *resolver) number(s scope, name string) int {
	word := "import "
	if s.out {
		word = "export "
	}
	text := word + s.key + "#" + name
	n, ok := r.numbers[text]
	if !ok {
		n = len(r.res)
		r.numbers[text] = n
		r.res = append(r.res, text)
	}
	return n
}
