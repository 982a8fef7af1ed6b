package resolve

import "scarf/api"

// self is the name of a method's first argument, which is not written.
const self = "self"

// names fails if a name stands twice in a scope, in one of its resources, or in a function of one of these.
func (r *resolver) names(s scope) {
	name := r.once()
	for _, u := range s.uses {
		for i := range u.Names {
			name(as(u, i))
		}
	}
	for _, d := range s.defs {
		name(d.Name)
		r.members(d.F)
	}
	for _, f := range s.funcs {
		name(f.Name)
		r.args(f)
	}
}

// members fails if a resource has two functions of a name: so also if it has two constructors, of which all have none.
func (r *resolver) members(l []api.Func) {
	name := r.once()
	for _, f := range l {
		name(f.Name)
		r.args(f)
	}
}

// args fails if two arguments of a function have one name.
func (r *resolver) args(f api.Func) {
	name := r.once()
	if f.Kind == api.FuncMethod {
		name(self)
	}
	for _, p := range f.P {
		name(p)
	}
}

// once makes what is told names, one behind the other, and fails at one that came already.
func (r *resolver) once() func(string) {
	count := map[string]int{}
	return func(name string) {
		count[name]++
		if count[name] > 1 {
			r.fail(api.ErrDup)
		}
	}
}

// as tells the name under which one of those stands that are used.
func as(u api.Use, i int) string {
	if u.As[i] != "" {
		return u.As[i]
	}
	return u.Names[i]
}
