package wit

import (
	"reflect"
	"slices"
	"strings"

	"scarf/api"
	"scarf/lex"
)

// A second reader, made from the chapter's words: it follows all ways in which a text may go on, and keeps how far one came.
type plain struct {
	l   []api.Token
	end int
	far int
	why api.Errno
}

// rule tells where one may be behind a thing that begins at a token.
type rule func(at int) []int

// plainParse tells the place and the error that a text has.
func plainParse(s string) (int, api.Errno) {
	l, at, e := lex.Cut(s)
	if e != api.OK {
		return at, e
	}
	p := &plain{l: l, end: len(s), far: -1}
	whole := p.seq(p.word("package"), p.name(), p.sign(":"), p.name(), p.version(), p.sign(";"), p.some(p.iface(), p.world()))
	if slices.Contains(whole(0), len(l)) {
		return 0, api.OK
	}
	if p.far == len(l) {
		return len(s), p.why
	}
	return l[p.far].At, p.why
}

// miss notes that nothing goes on at a token: of several errors the one that the chapter names first.
func (p *plain) miss(at int, e api.Errno) []int {
	rank := func(e api.Errno) int { return slices.Index([]api.Errno{api.ErrForm, api.ErrFloat, api.ErrFull}, e) }
	if at > p.far || at == p.far && rank(e) > rank(p.why) {
		p.far, p.why = at, e
	}
	return nil
}

func (p *plain) token(may func(api.Token) bool) rule {
	return func(at int) []int {
		if at < len(p.l) && may(p.l[at]) {
			return []int{at + 1}
		}
		return p.miss(at, api.ErrForm)
	}
}

func (p *plain) sign(s string) rule {
	return p.token(func(t api.Token) bool { return t.Kind == api.TokSign && t.S == s })
}

func (p *plain) word(s string) rule {
	return p.token(func(t api.Token) bool { return t.Kind == api.TokWord && t.S == s })
}

func (p *plain) name() rule {
	return p.token(func(t api.Token) bool {
		return t.Kind == api.TokName || t.Kind == api.TokWord && !lex.Word(t.S)
	})
}

func (p *plain) version() rule {
	v := p.token(func(t api.Token) bool { return t.Kind == api.TokVersion })
	return p.maybe(p.seq(p.sign("@"), v))
}

func (p *plain) float(s string) rule {
	return func(at int) []int {
		if p.word(s)(at) != nil {
			p.miss(at, api.ErrFloat)
		}
		return nil
	}
}

func (p *plain) seq(l ...rule) rule {
	return func(at int) []int {
		here := []int{at}
		for _, r := range l {
			var next []int
			for _, x := range here {
				next = append(next, r(x)...)
			}
			here = next
		}
		return here
	}
}

func (p *plain) one(l ...rule) rule {
	return func(at int) []int {
		var out []int
		for _, r := range l {
			out = append(out, r(at)...)
		}
		return out
	}
}

func (p *plain) maybe(r rule) rule {
	return func(at int) []int { return append([]int{at}, r(at)...) }
}

// some is things of several kinds in any order, at most 64 of each.
func (p *plain) some(l ...rule) rule {
	return func(at int) []int {
		count := make([]int, len(l))
		out := []int{at}
		for {
			var next []int
			for i, r := range l {
				if to := r(at); len(to) > 0 {
					count[i]++
					next = append(next, to...)
					if count[i] > 64 {
						return append(out, p.miss(to[0], api.ErrFull)...)
					}
				}
			}
			if len(next) == 0 {
				return out
			}
			if len(next) > 1 {
				panic("two ways")
			}
			at = next[0]
			out = append(out, at)
		}
	}
}

// list is things with commas between, and maybe behind.
func (p *plain) list(open, end string, least int, thing rule) rule {
	things := func(at int) []int {
		var out []int
		if least == 0 {
			out = append(out, at)
		}
		here := thing(at)
		for n := 1; len(here) > 0; n++ {
			out = append(out, here...)
			var behind []int
			for _, x := range here {
				behind = append(behind, p.sign(",")(x)...)
			}
			out = append(out, behind...)
			here = nil
			for _, x := range behind {
				if n < 64 {
					here = append(here, thing(x)...)
				} else if p.sign(end)(x) == nil {
					p.miss(x, api.ErrFull)
				}
			}
		}
		return out
	}
	return p.seq(p.sign(open), things, p.sign(end))
}

func (p *plain) typ(deep int) rule {
	return func(at int) []int {
		if deep == 16 {
			return p.miss(at, api.ErrFull)
		}
		var l []rule
		for _, s := range strings.Fields("bool s8 u8 s16 u16 s32 u32 s64 u64 char string result") {
			l = append(l, p.word(s))
		}
		in := p.typ(deep + 1)
		angles := func(l ...rule) rule { return p.seq(p.sign("<"), p.seq(l...), p.sign(">")) }
		l = append(l, p.seq(p.one(p.word("list"), p.word("option")), angles(in)))
		l = append(l, p.seq(p.word("tuple"), p.list("<", ">", 1, in)))
		l = append(l, p.seq(p.word("result"), p.one(angles(in, p.maybe(p.seq(p.sign(","), in))), angles(p.sign("_"), p.sign(","), in))))
		l = append(l, p.seq(p.one(p.word("own"), p.word("borrow")), angles(p.name())))
		l = append(l, p.name(), p.float("f32"), p.float("f64"))
		return p.one(l...)(at)
	}
}

func (p *plain) args() rule { return p.list("(", ")", 0, p.seq(p.name(), p.sign(":"), p.typ(0))) }

func (p *plain) gives() rule {
	return p.seq(p.word("func"), p.args(), p.maybe(p.seq(p.sign("->"), p.typ(0))), p.sign(";"))
}

func (p *plain) free() rule { return p.seq(p.name(), p.sign(":"), p.gives()) }

func (p *plain) resource() rule {
	f := p.one(
		p.seq(p.word("constructor"), p.args(), p.sign(";")),
		p.seq(p.name(), p.sign(":"), p.maybe(p.word("static")), p.gives()))
	functions := func(at int) []int { return p.some(f)(at)[1:] }
	return p.seq(p.word("resource"), p.name(), p.one(p.sign(";"), p.seq(p.sign("{"), functions, p.sign("}"))))
}

func (p *plain) def() rule {
	rows := func(word string, behind ...rule) rule {
		return p.seq(p.word(word), p.name(), p.list("{", "}", 1, p.seq(append([]rule{p.name()}, behind...)...)))
	}
	return p.one(
		p.seq(p.word("type"), p.name(), p.sign("="), p.typ(0), p.sign(";")),
		rows("record", p.sign(":"), p.typ(0)),
		rows("variant", p.maybe(p.seq(p.sign("("), p.typ(0), p.sign(")")))),
		rows("enum"), rows("flags"), p.resource())
}

func (p *plain) path() rule {
	return p.one(p.name(), p.seq(p.name(), p.sign(":"), p.name(), p.sign("/"), p.name(), p.version()))
}

func (p *plain) use() rule {
	thing := p.seq(p.name(), p.maybe(p.seq(p.word("as"), p.name())))
	return p.seq(p.word("use"), p.path(), p.sign("."), p.list("{", "}", 1, thing), p.sign(";"))
}

func (p *plain) port() rule { return p.one(p.free(), p.seq(p.path(), p.sign(";"))) }

func (p *plain) iface() rule {
	return p.seq(p.word("interface"), p.name(), p.sign("{"), p.some(p.use(), p.def(), p.free()), p.sign("}"))
}

func (p *plain) world() rule {
	in, out := p.seq(p.word("import"), p.port()), p.seq(p.word("export"), p.port())
	return p.seq(p.word("world"), p.name(), p.sign("{"), p.some(p.use(), p.def(), in, out), p.sign("}"))
}

// A second check, made from the chapter's words: a thing may be written if it is what is made anew of that which is named of it, and each of its names, versions and lists may be.
type again struct{ bad bool }

func plainCheck(p api.Package) api.Errno {
	a := &again{}
	if q := a.pack(p); a.bad || !same(p, q) {
		return api.ErrArg
	}
	return api.OK
}

// same tells whether two things are equal, nil and empty lists being the same.
func same(a, b any) bool { return reflect.DeepEqual(cleaned(a), cleaned(b)) }

// cleaned copies a thing, so that it has no empty lists, but nil ones.
func cleaned(x any) any {
	v := reflect.New(reflect.TypeOf(x)).Elem()
	v.Set(reflect.ValueOf(x))
	clean(v, 0)
	return v.Interface()
}

func clean(v reflect.Value, deep int) {
	if deep > 200 {
		return
	}
	switch v.Kind() {
	case reflect.Struct:
		for i := range v.NumField() {
			clean(v.Field(i), deep+1)
		}
	case reflect.Slice:
		if v.Len() == 0 {
			v.SetZero()
			return
		}
		l := reflect.MakeSlice(v.Type(), v.Len(), v.Len())
		reflect.Copy(l, v)
		for i := range l.Len() {
			clean(l.Index(i), deep+1)
		}
		v.Set(l)
	}
}

func anew[T any](a *again, l []T, least int, thing func(T) T) []T {
	if len(l) < least || len(l) > 64 {
		a.bad = true
		return nil
	}
	var out []T
	for _, x := range l {
		out = append(out, thing(x))
	}
	return out
}

func (a *again) need(ok bool) { a.bad = a.bad || !ok }

func (a *again) name(s string) string {
	a.need(lex.Name(s))
	return s
}

func (a *again) version(s string) string {
	a.need(s == "" || lex.Version(s))
	return s
}

func (a *again) pack(p api.Package) api.Package {
	return api.Package{Space: a.name(p.Space), Name: a.name(p.Name), Version: a.version(p.Version),
		Ifaces: anew(a, p.Ifaces, 0, a.iface), Worlds: anew(a, p.Worlds, 0, a.world)}
}

func (a *again) iface(i api.Iface) api.Iface {
	return api.Iface{Name: a.name(i.Name), Uses: anew(a, i.Uses, 0, a.use), Defs: anew(a, i.Defs, 0, a.def), F: anew(a, i.F, 0, a.free)}
}

func (a *again) world(w api.World) api.World {
	return api.World{Name: a.name(w.Name), Uses: anew(a, w.Uses, 0, a.use), Defs: anew(a, w.Defs, 0, a.def),
		Ins: anew(a, w.Ins, 0, a.port), Outs: anew(a, w.Outs, 0, a.port)}
}

func (a *again) use(u api.Use) api.Use {
	as := anew(a, u.As, 0, func(s string) string {
		if s != "" {
			a.name(s)
		}
		return s
	})
	a.need(len(as) == len(u.Names))
	return api.Use{From: a.path(u.From), Names: anew(a, u.Names, 1, a.name), As: as}
}

func (a *again) path(p api.Path) api.Path {
	q := api.Path{Name: a.name(p.Name)}
	if p.Pkg != "" {
		names := strings.Split(p.Pkg, ":")
		a.need(len(names) == 2)
		for _, s := range names {
			a.name(s)
		}
		q.Pkg, q.Version = p.Pkg, a.version(p.Version)
	}
	return q
}

func (a *again) port(p api.Port) api.Port {
	if p.From.Name != "" {
		return api.Port{From: a.path(p.From)}
	}
	return api.Port{F: a.free(p.F)}
}

func (a *again) def(d api.Def) api.Def {
	n := api.Def{Kind: d.Kind, Name: a.name(d.Name)}
	fields := func(kind int, typ func(api.Type) api.Type) {
		n.T = api.Type{Kind: kind, Names: anew(a, d.T.Names, 1, a.name)}
		if typ != nil {
			a.need(len(d.T.L) == len(d.T.Names))
			n.T.L = anew(a, d.T.L, 0, typ)
		}
	}
	switch d.Kind {
	case api.DefType:
		n.T = a.typ(d.T, 15)
	case api.DefRecord:
		fields(api.TRecord, func(t api.Type) api.Type { return a.typ(t, 15) })
	case api.DefVariant:
		fields(api.TVariant, func(t api.Type) api.Type { return a.orNone(t, 15) })
	case api.DefEnum:
		fields(api.TEnum, nil)
	case api.DefFlags:
		fields(api.TFlags, nil)
	case api.DefResource:
		n.F = anew(a, d.F, 0, func(f api.Func) api.Func { return a.function(f, 1, 3) })
	default:
		a.bad = true
	}
	return n
}

func (a *again) free(f api.Func) api.Func { return a.function(f, 0, 0) }

func (a *again) function(f api.Func, from, to int) api.Func {
	a.need(from <= f.Kind && f.Kind <= to && len(f.P) == len(f.T))
	n := api.Func{Kind: f.Kind, P: anew(a, f.P, 0, a.name)}
	n.T = anew(a, f.T, 0, func(t api.Type) api.Type { return a.typ(t, 15) })
	if f.Kind != api.FuncMake {
		n.Name, n.R = a.name(f.Name), a.orNone(f.R, 15)
	}
	return n
}

func (a *again) orNone(t api.Type, left int) api.Type {
	if t.Kind == 0 {
		return api.Type{}
	}
	return a.typ(t, left)
}

// typ makes a type anew, within which there may be types so often.
func (a *again) typ(t api.Type, left int) api.Type {
	if left < 0 {
		a.bad = true
		return api.Type{}
	}
	n := api.Type{Kind: t.Kind}
	within := func(t api.Type) api.Type { return a.typ(t, left-1) }
	if t.Kind == api.TResult {
		within = func(t api.Type) api.Type { return a.orNone(t, left-1) }
	}
	takes := func(least, most int) {
		a.need(len(t.L) <= most)
		n.L = anew(a, t.L, least, within)
	}
	switch t.Kind {
	case 1, 2, 3, 4, 5, 6, 7, 8, 9, 10, 11:
	case api.TList, api.TOption:
		takes(1, 1)
	case api.TTuple:
		takes(1, 64)
	case api.TResult:
		takes(2, 2)
	case api.TOwn, api.TBorrow, api.TNamed:
		a.need(len(t.Names) == 1)
		n.Names = anew(a, t.Names, 1, a.name)
	default:
		a.bad = true
	}
	return n
}
