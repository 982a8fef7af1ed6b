package resolve

import (
	"slices"
	"strings"

	"scarf/api"
	"scarf/wit"
)

// A second resolver, made from the chapter's words: a fault is a panic; names are followed one by one, with what they cost handed along.
type plain struct {
	all []api.Package
	w   api.World
	pkg api.Package
	res []string
}

// spot is a scope: of the world itself the interface is nil.
type spot struct {
	pkg   api.Package
	iface *api.Iface
	port  string // the word by which the scope is there: import, export, or none
}

// cost is how many types a function has so far, and how many names are looked up within one another.
type cost struct{ types, names int }

func plainWorld(all []api.Package, pkg int, name string) (c api.Contract, e api.Errno) {
	defer func() {
		if x := recover(); x != nil {
			c, e = api.Contract{}, x.(api.Errno)
		}
	}()
	for i, p := range all {
		if wit.Check(p) != api.OK {
			panic(api.ErrArg)
		}
		for _, q := range all[:i] {
			if p.Space == q.Space && p.Name == q.Name && p.Version == q.Version {
				panic(api.ErrDup)
			}
		}
	}
	if pkg < 0 || pkg > len(all)-1 {
		panic(api.ErrName)
	}
	for _, w := range all[pkg].Worlds {
		if w.Name == name {
			p := &plain{all: all, w: w, pkg: all[pkg]}
			p.differ(p.listed(w.Uses, w.Defs, nil)...)
			c.Ins = p.ports("import", w.Ins)
			c.Outs = p.ports("export", w.Outs)
			c.Res = p.res
			return c, api.OK
		}
	}
	panic(api.ErrName)
}

// differ panics if two of some names are the same.
func (p *plain) differ(l ...string) {
	sorted := slices.Sorted(slices.Values(l))
	if len(slices.Compact(sorted)) < len(l) {
		panic(api.ErrDup)
	}
}

// listed tells the names that a scope has; those within it have to differ, too.
func (p *plain) listed(uses []api.Use, defs []api.Def, funcs []api.Func) []string {
	var l []string
	for _, u := range uses {
		for i, s := range u.Names {
			if u.As[i] != "" {
				s = u.As[i]
			}
			l = append(l, s)
		}
	}
	for _, d := range defs {
		l = append(l, d.Name)
		var own []string
		for _, f := range d.F {
			switch f.Kind {
			case api.FuncMake:
				own = append(own, "constructor!")
				p.differ(f.P...)
			case api.FuncMethod:
				own = append(own, f.Name)
				p.differ(append([]string{"self"}, f.P...)...)
			case api.FuncStatic:
				own = append(own, f.Name)
				p.differ(f.P...)
			}
		}
		p.differ(own...)
	}
	for _, f := range funcs {
		l = append(l, f.Name)
		p.differ(f.P...)
	}
	return l
}

func (p *plain) keyOf(s spot) string {
	k := s.pkg.Space + ":" + s.pkg.Name + "/" + s.iface.Name
	if s.pkg.Version == "" {
		return k
	}
	return k + "@" + s.pkg.Version
}

// walk tells the interface at a path, seen from a package; nil if there is none.
func (p *plain) walk(from api.Package, path api.Path) spot {
	if path.Pkg == "" {
		path.Pkg, path.Version = from.Space+":"+from.Name, from.Version
	}
	for _, x := range p.all {
		if x.Space+":"+x.Name+" "+x.Version != path.Pkg+" "+path.Version {
			continue
		}
		for i := range x.Ifaces {
			if x.Ifaces[i].Name == path.Name {
				return spot{pkg: x, iface: &x.Ifaces[i]}
			}
		}
	}
	return spot{}
}

func (p *plain) ports(word string, l []api.Port) []api.Sig {
	var out []api.Sig
	for _, port := range l {
		if port.From == (api.Path{}) {
			p.differ(port.F.P...)
			out = append(out, p.function(spot{pkg: p.pkg}, "", port.F))
			continue
		}
		s := p.walk(p.pkg, port.From)
		if s.iface == nil {
			panic(api.ErrName)
		}
		s.port = word
		p.differ(p.listed(s.iface.Uses, s.iface.Defs, s.iface.F)...)
		for _, d := range s.iface.Defs {
			for _, f := range d.F {
				out = append(out, p.function(s, d.Name, f))
			}
		}
		for _, f := range s.iface.F {
			out = append(out, p.function(s, "", f))
		}
	}
	var names []string
	for _, s := range out {
		names = append(names, s.Name)
	}
	p.differ(names...)
	if len(out) > 200 {
		panic(api.ErrFull)
	}
	return out
}

func (p *plain) function(s spot, resource string, f api.Func) api.Sig {
	ahead := ""
	if s.iface != nil {
		ahead = p.keyOf(s) + "#"
	}
	n, c := 0, &cost{}
	if resource != "" {
		n = p.numberOf(s, resource)
	}
	sig := api.Sig{Name: ahead + f.Name}
	switch f.Kind {
	case api.FuncMethod:
		sig.Name = ahead + "[method]" + resource + "." + f.Name
		sig.P, sig.T = []string{"self"}, []api.Type{{Kind: api.TBorrow, R: n}}
		c.types++
	case api.FuncStatic:
		sig.Name = ahead + "[static]" + resource + "." + f.Name
	case api.FuncMake:
		sig.Name = ahead + "[constructor]" + resource
		c.types++
	}
	sig.P = append(sig.P, f.P...)
	for _, t := range f.T {
		sig.T = append(sig.T, p.typ(s, t, c))
	}
	if f.R.Kind != 0 {
		sig.R = p.typ(s, f.R, c)
	}
	if f.Kind == api.FuncMake {
		sig.R = api.Type{Kind: api.TOwn, R: n}
	}
	if strings.Contains(word(sig.R), "borrow ") {
		panic(api.ErrType)
	}
	return sig
}

func (p *plain) numberOf(s spot, name string) int {
	text := "import #" + name
	if s.iface != nil {
		head := "import "
		if s.port == "export" {
			head = "export "
		}
		text = head + p.keyOf(s) + "#" + name
	}
	if !slices.Contains(p.res, text) {
		p.res = append(p.res, text)
	}
	return slices.Index(p.res, text)
}

func (c *cost) one() {
	c.types++
	if c.types > 500 {
		panic(api.ErrFull)
	}
}

// follow goes from a name to the scope of a definition that is no other name.
func (p *plain) follow(s spot, name string, c *cost) (spot, api.Def) {
	for {
		c.names++
		if c.names > 64 {
			panic(api.ErrState)
		}
		uses, defs := p.w.Uses, p.w.Defs
		if s.iface != nil {
			uses, defs = s.iface.Uses, s.iface.Defs
		}
		if i := slices.IndexFunc(defs, func(d api.Def) bool { return d.Name == name }); i >= 0 {
			d := defs[i]
			if d.Kind != api.DefType || d.T.Kind != api.TNamed {
				return s, d
			}
			name = d.T.Names[0]
			continue
		}
		next := ""
		var from api.Path
		for i := len(uses) - 1; i >= 0; i-- {
			for k := len(uses[i].Names) - 1; k >= 0; k-- {
				if uses[i].As[k] == name || uses[i].As[k] == "" && uses[i].Names[k] == name {
					next, from = uses[i].Names[k], uses[i].From
				}
			}
		}
		if next == "" {
			panic(api.ErrName)
		}
		to := p.walk(s.pkg, from)
		if to.iface == nil {
			panic(api.ErrName)
		}
		if s.port == "export" || s.iface == nil {
			for _, port := range p.w.Outs {
				if x := p.walk(p.pkg, port.From); x.iface != nil && p.keyOf(x) == p.keyOf(to) {
					to.port = "export"
				}
			}
		}
		s, name = to, next
	}
}

func (p *plain) typ(s spot, t api.Type, c *cost) api.Type {
	c.one()
	names := c.names
	defer func() { c.names = names }()
	out := api.Type{Kind: t.Kind}
	switch t.Kind {
	case api.TNamed, api.TOwn, api.TBorrow:
		to, d := p.follow(s, t.Names[0], c)
		switch {
		case d.Kind == api.DefResource:
			out.R = p.numberOf(to, d.Name)
			if t.Kind == api.TNamed {
				out.Kind = api.TOwn
			}
		case t.Kind == api.TNamed:
			return p.typ(to, d.T, c)
		default:
			p.typ(to, d.T, c)
			panic(api.ErrType)
		}
	default:
		out.Names = append(out.Names, t.Names...)
		for _, x := range t.L {
			if x.Kind == 0 {
				out.L = append(out.L, api.Type{})
			} else {
				out.L = append(out.L, p.typ(s, x, c))
			}
		}
	}
	return out
}
