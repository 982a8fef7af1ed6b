package resolve

import (
	"slices"

	"scarf/api"
)

// orNone tells a type that names nothing, or none.
func (r *resolver) orNone(s scope, t api.Type) api.Type {
	if t.Kind == 0 {
		return api.Type{}
	}
	out, _ := r.typ(s, t)
	return out
}

// typ tells a type that names nothing, and whether it is there for a name that stands for a resource.
func (r *resolver) typ(s scope, t api.Type) (api.Type, bool) {
	r.parts++
	if r.parts > api.MaxParts {
		r.fail(api.ErrFull)
	}
	if r.e != api.OK {
		return api.Type{}, false
	}
	switch t.Kind {
	case api.TNamed:
		return r.named(s, t.Names[0])
	case api.TOwn, api.TBorrow:
		of, ok := r.named(s, t.Names[0])
		if !ok {
			r.fail(api.ErrType)
		}
		return api.Type{Kind: t.Kind, R: of.R}, false
	}
	out := api.Type{Kind: t.Kind, Names: slices.Clone(t.Names)}
	for _, x := range t.L {
		out.L = append(out.L, r.orNone(s, x))
	}
	return out, false
}

// named tells what a name stands for in a scope, as a type that names nothing, and whether that is a resource.
func (r *resolver) named(s scope, name string) (api.Type, bool) {
	r.deep++
	defer func() { r.deep-- }()
	if r.deep > api.MaxNames {
		r.fail(api.ErrState)
		return api.Type{}, false
	}
	at := slices.IndexFunc(s.defs, func(d api.Def) bool { return d.Name == name })
	if at < 0 {
		return r.used(s, name)
	}
	d := s.defs[at]
	if d.Kind == api.DefResource {
		return api.Type{Kind: api.TOwn, R: r.number(s, name)}, true
	}
	if d.T.Kind == api.TNamed { // a name on the way to what it stands for: no type of the function's
		return r.named(s, d.T.Names[0])
	}
	return r.typ(s, d.T)
}

// used tells likewise what a name stands for that is not defined in a scope.
func (r *resolver) used(s scope, name string) (api.Type, bool) {
	for _, u := range s.uses {
		for i := range u.Names {
			if as(u, i) == name {
				return r.from(s, u.From, u.Names[i])
			}
		}
	}
	r.fail(api.ErrName)
	return api.Type{}, false
}

// from tells likewise what a name stands for in an interface from which a scope uses it.
func (r *resolver) from(s scope, p api.Path, name string) (api.Type, bool) {
	next, ok := r.look(s.pkg, p)
	if !ok {
		r.fail(api.ErrName)
		return api.Type{}, false
	}
	next.out = (s.out || s.key == "") && slices.Contains(r.outs, next.key)
	return r.named(next, name)
}

// lends tells whether a type has a borrow within.
func lends(t api.Type) bool {
	return t.Kind == api.TBorrow || slices.ContainsFunc(t.L, lends)
}
