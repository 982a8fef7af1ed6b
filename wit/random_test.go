package wit

import (
	"math/rand"
	"reflect"
	"slices"
	"strings"
	"testing"

	"scarf/api"
	"scarf/lex"
)

// maker makes packages, and their texts, by chance.
type maker struct{ *rand.Rand }

func newMaker(seed int64) maker { return maker{rand.New(rand.NewSource(seed))} }

func of[T any](m maker, l ...T) T { return l[m.Intn(len(l))] }

func (m maker) name() string {
	return of(m, "a", "b", "c-d", "HTTP", "e2-F3", "z", "type", "func", "own", "u8", "f32", "static", "constructor", "use", "as", "import", "export", "package", "interface", "world", "resource", "result", "string")
}

func (m maker) version() string { return of(m, "", "", "0.0.0", "1.2.3", "10.20.999999999") }

func some[T any](m maker, least, most int, thing func() T) []T {
	var l []T
	for range least + m.Intn(most-least+1) {
		l = append(l, thing())
	}
	return l
}

// typ makes a type within which there are others as often as told, at most.
func (m maker) typ(left int) api.Type {
	kind := of(m, api.TBool, api.TS8, api.TU8, api.TS16, api.TU16, api.TS32, api.TU32, api.TS64, api.TU64, api.TChar, api.TString, api.TOwn, api.TBorrow, api.TNamed)
	if left > 0 && m.Intn(2) == 0 {
		kind = of(m, api.TList, api.TOption, api.TTuple, api.TResult)
	}
	t := api.Type{Kind: kind}
	in := func() api.Type { return m.typ(left - 1) }
	switch kind {
	case api.TOwn, api.TBorrow, api.TNamed:
		t.Names = []string{m.name()}
	case api.TList, api.TOption:
		t.L = []api.Type{in()}
	case api.TTuple:
		t.L = some(m, 1, 3, in)
	case api.TResult:
		t.L = []api.Type{m.orNone(left - 1), m.orNone(left - 1)}
	}
	return t
}

func (m maker) orNone(left int) api.Type {
	if m.Intn(2) == 0 {
		return api.Type{}
	}
	return m.typ(left)
}

func (m maker) free() api.Func { return m.function(api.FuncFree) }

func (m maker) function(kind int) api.Func {
	f := api.Func{Kind: kind, P: some(m, 0, 3, m.name)}
	for range f.P {
		f.T = append(f.T, m.typ(3))
	}
	if kind != api.FuncMake {
		f.Name, f.R = m.name(), m.orNone(3)
	}
	return f
}

func (m maker) def() api.Def {
	d := api.Def{Kind: 1 + m.Intn(6), Name: m.name()}
	names := some(m, 1, 3, m.name)
	switch d.Kind {
	case api.DefType:
		d.T = m.typ(4)
	case api.DefRecord:
		d.T = api.Type{Kind: api.TRecord, Names: names}
		for range names {
			d.T.L = append(d.T.L, m.typ(3))
		}
	case api.DefVariant:
		d.T = api.Type{Kind: api.TVariant, Names: names}
		for range names {
			d.T.L = append(d.T.L, m.orNone(3))
		}
	case api.DefEnum:
		d.T = api.Type{Kind: api.TEnum, Names: names}
	case api.DefFlags:
		d.T = api.Type{Kind: api.TFlags, Names: names}
	case api.DefResource:
		d.F = some(m, 0, 3, func() api.Func { return m.function(1 + m.Intn(3)) })
	}
	return d
}

func (m maker) path() api.Path {
	p := api.Path{Name: m.name()}
	if m.Intn(2) == 0 {
		p.Pkg, p.Version = m.name()+":"+m.name(), m.version()
	}
	return p
}

func (m maker) use() api.Use {
	u := api.Use{From: m.path(), Names: some(m, 1, 3, m.name)}
	for range u.Names {
		u.As = append(u.As, of(m, "", m.name()))
	}
	return u
}

func (m maker) port() api.Port {
	if m.Intn(2) == 0 {
		return api.Port{F: m.free()}
	}
	return api.Port{From: m.path()}
}

func (m maker) pack() api.Package {
	return api.Package{Space: m.name(), Name: m.name(), Version: m.version(),
		Ifaces: some(m, 0, 2, func() api.Iface {
			return api.Iface{Name: m.name(), Uses: some(m, 0, 2, m.use), Defs: some(m, 0, 3, m.def), F: some(m, 0, 3, m.free)}
		}),
		Worlds: some(m, 0, 2, func() api.World {
			return api.World{Name: m.name(), Uses: some(m, 0, 2, m.use), Defs: some(m, 0, 2, m.def), Ins: some(m, 0, 3, m.port), Outs: some(m, 0, 3, m.port)}
		})}
}

// wild writes a package's tokens in any of the ways that there are.
type wild struct {
	maker
	l []string
}

func (w *wild) put(l ...string) { w.l = append(w.l, l...) }

func (w *wild) word(s string) string {
	if lex.Word(s) || w.Intn(4) == 0 {
		return "%" + s
	}
	return s
}

func (w *wild) version(s string) {
	if s != "" {
		w.put("@", s)
	}
}

// list writes things with commas between, and maybe behind.
func (w *wild) list(open, end string, n int, thing func(int)) {
	w.put(open)
	for i := range n {
		thing(i)
		if i < n-1 || w.Intn(3) == 0 {
			w.put(",")
		}
	}
	w.put(end)
}

// mixed writes things of several kinds in any order, those of a kind in theirs.
func (w *wild) mixed(open, end string, kinds ...func() func()) {
	w.put(open)
	for {
		var left []func()
		for _, next := range kinds {
			left = append(left, next())
		}
		left = slices.DeleteFunc(left, func(f func()) bool { return f == nil })
		if len(left) == 0 {
			break
		}
		left[w.Intn(len(left))]()
	}
	w.put(end)
}

// each makes of a list what mixed asks for: how to write the next thing.
func each[T any](l []T, thing func(T)) func() func() {
	return func() func() {
		if len(l) == 0 {
			return nil
		}
		return func() {
			x := l[0]
			l = l[1:]
			thing(x)
		}
	}
}

func (w *wild) typ(t api.Type) {
	word := []string{"", "bool", "s8", "u8", "s16", "u16", "s32", "u32", "s64", "u64", "char", "string", "list", "", "tuple", "", "", "option", "result", "", "own", "borrow", ""}[t.Kind]
	switch t.Kind {
	case api.TNamed:
		w.put(w.word(t.Names[0]))
	case api.TOwn, api.TBorrow:
		w.put(word, "<", w.word(t.Names[0]), ">")
	case api.TList, api.TOption:
		w.put(word, "<")
		w.typ(t.L[0])
		w.put(">")
	case api.TTuple:
		w.put(word)
		w.list("<", ">", len(t.L), func(i int) { w.typ(t.L[i]) })
	case api.TResult:
		w.result(t)
	default:
		w.put(word)
	}
}

func (w *wild) result(t api.Type) {
	w.put("result")
	if t.L[0].Kind == 0 && t.L[1].Kind == 0 {
		return
	}
	w.put("<")
	if t.L[0].Kind == 0 {
		w.put("_")
	} else {
		w.typ(t.L[0])
	}
	if t.L[1].Kind != 0 {
		w.put(",")
		w.typ(t.L[1])
	}
	w.put(">")
}

func (w *wild) function(f api.Func) {
	switch f.Kind {
	case api.FuncMake:
		w.put("constructor")
	case api.FuncStatic:
		w.put(w.word(f.Name), ":", "static", "func")
	default:
		w.put(w.word(f.Name), ":", "func")
	}
	w.list("(", ")", len(f.P), func(i int) {
		w.put(w.word(f.P[i]), ":")
		w.typ(f.T[i])
	})
	if f.R.Kind != 0 {
		w.put("->")
		w.typ(f.R)
	}
	w.put(";")
}

func (w *wild) def(d api.Def) {
	words := []string{"", "type", "record", "variant", "enum", "flags", "resource"}
	w.put(words[d.Kind], w.word(d.Name))
	switch d.Kind {
	case api.DefType:
		w.put("=")
		w.typ(d.T)
		w.put(";")
	case api.DefResource:
		if len(d.F) == 0 {
			w.put(";")
		} else {
			w.mixed("{", "}", each(d.F, w.function))
		}
	default:
		w.list("{", "}", len(d.T.Names), func(i int) {
			w.put(w.word(d.T.Names[i]))
			switch {
			case d.Kind == api.DefRecord:
				w.put(":")
				w.typ(d.T.L[i])
			case d.Kind == api.DefVariant && d.T.L[i].Kind != 0:
				w.put("(")
				w.typ(d.T.L[i])
				w.put(")")
			}
		})
	}
}

func (w *wild) path(p api.Path) {
	if space, name, ok := strings.Cut(p.Pkg, ":"); ok {
		w.put(w.word(space), ":", w.word(name), "/")
	}
	w.put(w.word(p.Name))
	w.version(p.Version)
}

func (w *wild) use(u api.Use) {
	w.put("use")
	w.path(u.From)
	w.put(".")
	w.list("{", "}", len(u.Names), func(i int) {
		w.put(w.word(u.Names[i]))
		if u.As[i] != "" {
			w.put("as", w.word(u.As[i]))
		}
	})
	w.put(";")
}

func (w *wild) port(word string) func(api.Port) {
	return func(p api.Port) {
		w.put(word)
		if p.From.Name == "" {
			w.function(p.F)
			return
		}
		w.path(p.From)
		w.put(";")
	}
}

func (w *wild) iface(i api.Iface) {
	w.put("interface", w.word(i.Name))
	w.mixed("{", "}", each(i.Uses, w.use), each(i.Defs, w.def), each(i.F, w.function))
}

func (w *wild) world(x api.World) {
	w.put("world", w.word(x.Name))
	w.mixed("{", "}", each(x.Uses, w.use), each(x.Defs, w.def), each(x.Ins, w.port("import")), each(x.Outs, w.port("export")))
}

// tokens tells a package's tokens, written in one of all ways.
func (m maker) tokens(p api.Package) []string {
	w := &wild{maker: m}
	w.put("package", w.word(p.Space), ":", w.word(p.Name))
	w.version(p.Version)
	w.put(";")
	w.mixed("", "", each(p.Ifaces, w.iface), each(p.Worlds, w.world))
	return slices.DeleteFunc(w.l, func(s string) bool { return s == "" })
}

// spaced writes tokens with blanks and remarks between.
func (m maker) spaced(l []string) string {
	gap := func() string {
		return of(m, " ", " ", " ", "\n", "\t", "\r\n", "// use }\n", "/**/", " /* /* ; */ */ ")
	}
	s := of(m, "", gap())
	for _, t := range l {
		s += t + " "[:m.Intn(2)]
		if t == "/" { // with what follows it would begin a remark
			s += " "
		}
		s += gap()
	}
	return s
}

func TestRandomPackages(t *testing.T) {
	m := newMaker(1)
	long := 0
	for range 2500 {
		p := m.pack()
		if e := Check(p); e != api.OK {
			t.Fatal(e, p)
		}
		s, e := Print(p)
		if e != api.OK {
			t.Fatal(e, p)
		}
		for _, s := range []string{s, m.spaced(m.tokens(p)), strings.Join(m.tokens(p), " ")} {
			if len(s) > api.MaxWit {
				long++
				continue
			}
			q, at, e := Parse(s)
			if e != api.OK || at != 0 || !same(p, q) {
				t.Fatalf("%s\n%v\n%v %d %d", s, p, q, at, e)
			}
		}
	}
	if long > 500 {
		t.Error("too long: ", long)
	}
}

// changed leaves a token out, puts one more, or another one, or ends.
func (m maker) changed(l []string) []string {
	l = slices.Clone(l)
	at := m.Intn(len(l) + 1)
	other := of(m, "->", ":", ";", ",", ".", "/", "{", "}", "(", ")", "<", ">", "=", "@", "_", "1.2.3", m.name(), "%"+m.name(), "a", "f32", "f64", "list", "tuple", "option", "flags", "enum", "variant", "record")
	if at < len(l) && m.Intn(4) == 0 {
		other = l[m.Intn(len(l))]
	}
	switch m.Intn(4) {
	case 0:
		return slices.Insert(l, at, other)
	case 1:
		return l[:at]
	case 2:
		return slices.Delete(l, min(at, len(l)-1), min(at, len(l)-1)+1)
	}
	if at < len(l) {
		l[at] = other
	}
	return l
}

func TestRandomTexts(t *testing.T) {
	m := newMaker(2)
	count := map[api.Errno]int{}
	for range 15000 {
		p := m.pack()
		p.Ifaces, p.Worlds = p.Ifaces[:min(1, len(p.Ifaces))], p.Worlds[:min(1, len(p.Worlds))]
		l := m.changed(m.tokens(p))
		if m.Intn(3) == 0 && len(l) > 0 {
			l = m.changed(l)
		}
		s := strings.Join(l, " ")
		if m.Intn(4) == 0 {
			s = m.spaced(l)
		}
		q, at, e := Parse(s)
		wantAt, want := plainParse(s)
		if at != wantAt || e != want {
			t.Fatalf("%s\n%d %d, not %d %d", s, at, e, wantAt, want)
		}
		count[e]++
		if e != api.OK {
			if !reflect.DeepEqual(q, api.Package{}) {
				t.Fatal("not zero", s)
			}
			continue
		}
		text, e := Print(q)
		if e != api.OK {
			t.Fatal(e, s)
		}
		if r, at, e := Parse(text); len(text) <= api.MaxWit && (e != api.OK || at != 0 || !same(q, r)) {
			t.Fatal(e, at, text)
		}
	}
	if count[api.OK] < 400 || count[api.ErrFloat] < 40 || count[api.ErrForm] < 1000 {
		t.Error(count)
	}
}

// spoil changes a field, or a list, anywhere in a thing.
func (m maker) spoil(v reflect.Value) {
	switch v.Kind() {
	case reflect.Struct:
		m.spoil(v.Field(m.Intn(v.NumField())))
	case reflect.Slice:
		switch {
		case v.Len() > 0 && m.Intn(3) > 0:
			m.spoil(v.Index(m.Intn(v.Len())))
		case v.Len() > 0 && m.Intn(2) == 0:
			v.Set(v.Slice(0, v.Len()-1))
		case v.Len() > 0 && m.Intn(2) == 0:
			v.Set(reflect.Append(v, v.Index(0)))
		default:
			v.Set(reflect.Append(v, reflect.Zero(v.Type().Elem())))
		}
	case reflect.Int:
		v.SetInt(of(m, 0, 0, 1, 2, 3, -1, 1<<40, int64(m.Intn(24)), v.Int()+1))
	case reflect.String:
		v.SetString(of(m, "", "a", m.name(), "A", "a:b", "a:b:c", "1.2.3", "01.2.3", "a-", "aB", ":", "a:", "f32", strings.Repeat("a", 100), strings.Repeat("a", 101)))
	}
}

func TestRandomChecks(t *testing.T) {
	m := newMaker(3)
	count := map[api.Errno]int{}
	for range 25000 {
		p := m.pack()
		p.Ifaces, p.Worlds = p.Ifaces[:min(1, len(p.Ifaces))], p.Worlds[:min(1, len(p.Worlds))]
		for range 1 + m.Intn(2) {
			m.spoil(reflect.ValueOf(&p).Elem())
		}
		e, want := Check(p), plainCheck(p)
		if e != want {
			t.Fatalf("%d, not %d: %+v", e, want, p)
		}
		count[e]++
		s, e := Print(p)
		if e != want || want != api.OK && s != "" {
			t.Fatal(s, e, want)
		}
		if q, at, e := Parse(s); want == api.OK && len(s) <= api.MaxWit && (e != api.OK || at != 0 || !same(p, q)) {
			t.Fatalf("%s\n%d %d\n%+v\n%+v", s, e, at, p, q)
		}
	}
	if count[api.OK] < 2000 || count[api.ErrArg] < 2000 {
		t.Error(count)
	}
}
