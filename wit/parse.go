package wit

import (
	"scarf/api"
	"scarf/lex"
)

// reader takes tokens, one behind the other, up to the first fault: behind it there are none.
type reader struct {
	l       []api.Token
	end, at int
	e       api.Errno
}

// Parse reads a package's text; where it is none, the place of the fault.
func Parse(s string) (api.Package, int, api.Errno) {
	l, at, e := lex.Cut(s)
	if e != api.OK {
		return api.Package{}, at, e
	}
	r := reader{l: l, end: len(s)}
	p := r.pack()
	if r.e != api.OK {
		return api.Package{}, r.at, r.e
	}
	return p, 0, api.OK
}

// fail keeps the first fault, at the token that is next.
func (r *reader) fail(e api.Errno) {
	if r.e != api.OK {
		return
	}
	r.e, r.at = e, r.end
	if len(r.l) > 0 {
		r.at = r.l[0].At
	}
	r.l = nil
}

// need is a fault, unless there was what had to be.
func (r *reader) need(ok bool) {
	if !ok {
		r.fail(api.ErrForm)
	}
}

// next tells the token that is next, the zero one if there is none.
func (r *reader) next() api.Token {
	if len(r.l) == 0 {
		return api.Token{}
	}
	return r.l[0]
}

// takeIf takes the next token if it is one of a kind that may be.
func (r *reader) takeIf(kind int, may func(string) bool) (string, bool) {
	t := r.next()
	if t.Kind != kind || !may(t.S) {
		return "", false
	}
	r.l = r.l[1:]
	return t.S, true
}

// sign takes a sign, if it is next.
func (r *reader) sign(s string) bool {
	_, ok := r.takeIf(api.TokSign, func(t string) bool { return t == s })
	return ok
}

// word takes a word of the language, if it is next.
func (r *reader) word(s string) bool {
	_, ok := r.takeIf(api.TokWord, func(t string) bool { return t == s })
	return ok
}

// isWord tells whether a word of the language is next.
func (r *reader) isWord(s string) bool {
	t := r.next()
	return t.Kind == api.TokWord && t.S == s
}

// name takes a name.
func (r *reader) name() string {
	s, ok := r.takeIf(api.TokName, func(string) bool { return true })
	if !ok {
		s, ok = r.takeIf(api.TokWord, func(t string) bool { return !lex.Word(t) })
	}
	r.need(ok)
	return s
}

// version takes an @ and a version, if there is one.
func (r *reader) version() string {
	if !r.sign("@") {
		return ""
	}
	s, ok := r.takeIf(api.TokVersion, func(string) bool { return true })
	r.need(ok)
	return s
}

// within takes what a closure takes, between two signs.
func (r *reader) within(open, end string, take func()) {
	r.need(r.sign(open))
	take()
	r.need(r.sign(end))
}

// body takes things by a closure, between braces.
func (r *reader) body(thing func()) {
	r.within("{", "}", func() {
		for r.e == api.OK && r.next().S != "}" {
			thing()
		}
	})
}

// list takes things by a closure, with commas between, and maybe behind the last one, between two signs; some: there has to be one.
func (r *reader) list(open, end string, some bool, thing func()) {
	r.within(open, end, func() {
		if !some && r.next().S == end {
			return
		}
		thing()
		for n := 1; r.sign(",") && r.next().S != end; n++ {
			if n == api.MaxNames {
				r.fail(api.ErrFull)
			}
			thing()
		}
	})
}

// add puts a thing that was taken behind others; it is a fault behind the thing, if there are too many.
func add[T any](r *reader, l []T, x T) []T {
	if len(l) == api.MaxNames {
		r.fail(api.ErrFull)
	}
	return append(l, x)
}

func (r *reader) pack() api.Package {
	var p api.Package
	r.need(r.word("package"))
	p.Space = r.name()
	r.need(r.sign(":"))
	p.Name = r.name()
	p.Version = r.version()
	r.need(r.sign(";"))
	for len(r.l) > 0 {
		switch {
		case r.word("interface"):
			p.Ifaces = add(r, p.Ifaces, r.iface())
		case r.word("world"):
			p.Worlds = add(r, p.Worlds, r.world())
		default:
			r.fail(api.ErrForm)
		}
	}
	return p
}

func (r *reader) iface() api.Iface {
	i := api.Iface{Name: r.name()}
	r.body(func() {
		if !r.common(&i.Uses, &i.Defs) {
			i.F = add(r, i.F, r.free())
		}
	})
	return i
}

func (r *reader) world() api.World {
	w := api.World{Name: r.name()}
	r.body(func() {
		switch {
		case r.common(&w.Uses, &w.Defs):
		case r.word("import"):
			w.Ins = add(r, w.Ins, r.port())
		case r.word("export"):
			w.Outs = add(r, w.Outs, r.port())
		default:
			r.fail(api.ErrForm)
		}
	})
	return w
}

// common takes what is used, or a definition, if one of these is next.
func (r *reader) common(uses *[]api.Use, defs *[]api.Def) bool {
	if r.word("use") {
		*uses = add(r, *uses, r.use())
		return true
	}
	d, ok := r.def()
	if ok {
		*defs = add(r, *defs, d)
	}
	return ok
}

func (r *reader) use() api.Use {
	var u api.Use
	name := r.name()
	if r.sign(":") {
		u.From = r.far(name)
	} else {
		u.From.Name = name
	}
	r.need(r.sign("."))
	r.list("{", "}", true, func() {
		name, as := r.name(), ""
		if r.word("as") {
			as = r.name()
		}
		u.Names, u.As = append(u.Names, name), append(u.As, as)
	})
	r.need(r.sign(";"))
	return u
}

// far takes what is behind the first name of a path, and its colon.
func (r *reader) far(space string) api.Path {
	var p api.Path
	p.Pkg = space + ":" + r.name()
	r.need(r.sign("/"))
	p.Name = r.name()
	p.Version = r.version()
	return p
}

func (r *reader) port() api.Port {
	name := r.name()
	if !r.sign(":") {
		r.need(r.sign(";"))
		return api.Port{From: api.Path{Name: name}}
	}
	if r.isWord("func") {
		return api.Port{F: r.behind(api.Func{Name: name})}
	}
	p := api.Port{From: r.far(name)}
	r.need(r.sign(";"))
	return p
}

// def takes a definition, if one is next.
func (r *reader) def() (api.Def, bool) {
	switch {
	case r.word("type"):
		return r.alias(), true
	case r.word("record"):
		return r.rows(api.DefRecord, api.TRecord, r.field), true
	case r.word("variant"):
		return r.rows(api.DefVariant, api.TVariant, r.payload), true
	case r.word("enum"):
		return r.rows(api.DefEnum, api.TEnum, nil), true
	case r.word("flags"):
		return r.rows(api.DefFlags, api.TFlags, nil), true
	case r.word("resource"):
		return r.resource(), true
	}
	return api.Def{}, false
}

func (r *reader) alias() api.Def {
	d := api.Def{Kind: api.DefType, Name: r.name()}
	r.need(r.sign("="))
	d.T = r.typ(0)
	r.need(r.sign(";"))
	return d
}

// rows takes a definition of names, each with a type that a function takes, if there is one.
func (r *reader) rows(def, kind int, behind func() api.Type) api.Def {
	d := api.Def{Kind: def, Name: r.name(), T: api.Type{Kind: kind}}
	r.list("{", "}", true, func() {
		d.T.Names = append(d.T.Names, r.name())
		if behind != nil {
			d.T.L = append(d.T.L, behind())
		}
	})
	return d
}

// field takes what is behind a field's name.
func (r *reader) field() api.Type {
	r.need(r.sign(":"))
	return r.typ(0)
}

// payload takes what is behind a case's name.
func (r *reader) payload() api.Type {
	var t api.Type
	if r.next().S == "(" {
		r.within("(", ")", func() { t = r.typ(0) })
	}
	return t
}

func (r *reader) resource() api.Def {
	d := api.Def{Kind: api.DefResource, Name: r.name()}
	if r.sign(";") {
		return d
	}
	r.within("{", "}", func() {
		for len(d.F) == 0 || r.e == api.OK && r.next().S != "}" {
			d.F = add(r, d.F, r.owned())
		}
	})
	return d
}

// owned takes a function of a resource.
func (r *reader) owned() api.Func {
	if r.word("constructor") {
		f := r.args(api.Func{Kind: api.FuncMake})
		r.need(r.sign(";"))
		return f
	}
	f := api.Func{Kind: api.FuncMethod, Name: r.name()}
	r.need(r.sign(":"))
	if r.word("static") {
		f.Kind = api.FuncStatic
	}
	return r.behind(f)
}

// free takes a function of an interface.
func (r *reader) free() api.Func {
	f := api.Func{Name: r.name()}
	r.need(r.sign(":"))
	return r.behind(f)
}

// behind takes what is behind a function's name.
func (r *reader) behind(f api.Func) api.Func {
	r.need(r.word("func"))
	f = r.args(f)
	if r.sign("->") {
		f.R = r.typ(0)
	}
	r.need(r.sign(";"))
	return f
}

// args takes a function's arguments.
func (r *reader) args(f api.Func) api.Func {
	r.list("(", ")", false, func() {
		f.P = append(f.P, r.name())
		f.T = append(f.T, r.field())
	})
	return f
}

// typ takes a type that stands within as many others.
func (r *reader) typ(deep int) api.Type {
	if deep == api.MaxDeep {
		r.fail(api.ErrFull)
	}
	if r.isWord("f32") || r.isWord("f64") {
		r.fail(api.ErrFloat)
	}
	for kind, word := range words {
		if r.word(word) {
			return r.angles(api.Type{Kind: kind}, deep+1)
		}
	}
	return api.Type{Kind: api.TNamed, Names: []string{r.name()}}
}

// angles takes what is behind the word of a type's kind.
func (r *reader) angles(t api.Type, deep int) api.Type {
	one := func() { t.L = append(t.L, r.typ(deep)) }
	switch t.Kind {
	case api.TOwn, api.TBorrow:
		r.within("<", ">", func() { t.Names = []string{r.name()} })
	case api.TList, api.TOption:
		r.within("<", ">", one)
	case api.TTuple:
		r.list("<", ">", true, one)
	case api.TResult:
		t.L = make([]api.Type, 2)
		if r.next().S == "<" {
			r.within("<", ">", func() { r.result(t.L, deep) })
		}
	}
	return t
}

// result takes what stands in a result's angles: never nothing, nor none as the only one, nor as the second one.
func (r *reader) result(l []api.Type, deep int) {
	none := r.sign("_")
	if none {
		r.need(r.sign(","))
	} else {
		l[0] = r.typ(deep)
	}
	if none || r.sign(",") {
		l[1] = r.typ(deep)
	}
}
