package wit

import (
	"strings"

	"scarf/api"
	"scarf/lex"
)

// writer builds a text line by line, each as far in as it stands within others.
type writer struct {
	strings.Builder
	in int
}

// Print tells a package's text.
func Print(p api.Package) (string, api.Errno) {
	if e := Check(p); e != api.OK {
		return "", e
	}
	var w writer
	w.line("package ", name(p.Space), ":", name(p.Name), version(p.Version), ";")
	for _, i := range p.Ifaces {
		w.iface(i)
	}
	for _, x := range p.Worlds {
		w.world(x)
	}
	return w.String(), api.OK
}

// line writes a line of several texts.
func (w *writer) line(parts ...string) {
	w.WriteString(strings.Repeat("  ", w.in))
	for _, s := range parts {
		w.WriteString(s)
	}
	w.WriteByte('\n')
}

// block writes what a closure writes, further in, between braces.
func (w *writer) block(word, head string, within func()) {
	w.line(word, " ", name(head), " {")
	w.in++
	within()
	w.in--
	w.line("}")
}

func (w *writer) iface(i api.Iface) {
	w.block("interface", i.Name, func() {
		w.uses(i.Uses)
		w.defs(i.Defs)
		w.funcs(i.F)
	})
}

func (w *writer) world(x api.World) {
	w.block("world", x.Name, func() {
		w.uses(x.Uses)
		w.defs(x.Defs)
		w.ports("import ", x.Ins)
		w.ports("export ", x.Outs)
	})
}

func (w *writer) uses(l []api.Use) {
	for _, u := range l {
		names := joined(len(u.Names), func(i int) string {
			if u.As[i] == "" {
				return name(u.Names[i])
			}
			return name(u.Names[i]) + " as " + name(u.As[i])
		})
		w.line("use ", path(u.From), " .{", names, "};")
	}
}

func (w *writer) ports(word string, l []api.Port) {
	for _, p := range l {
		if p.From.Name == "" {
			w.line(word, function(p.F))
		} else {
			w.line(word, path(p.From), ";")
		}
	}
}

func (w *writer) funcs(l []api.Func) {
	for _, f := range l {
		w.line(function(f))
	}
}

func (w *writer) defs(l []api.Def) {
	for _, d := range l {
		w.def(d)
	}
}

func (w *writer) def(d api.Def) {
	bare := func(int) string { return "" }
	switch d.Kind {
	case api.DefType:
		w.line("type ", name(d.Name), " = ", text(d.T), ";")
	case api.DefRecord:
		w.rows("record", d, func(i int) string { return ": " + text(d.T.L[i]) })
	case api.DefVariant:
		w.rows("variant", d, func(i int) string {
			if isNone(d.T.L[i]) {
				return ""
			}
			return "(" + text(d.T.L[i]) + ")"
		})
	case api.DefEnum:
		w.rows("enum", d, bare)
	case api.DefFlags:
		w.rows("flags", d, bare)
	default:
		w.resource(d)
	}
}

// rows writes a definition of names, and what a closure tells behind each.
func (w *writer) rows(word string, d api.Def, behind func(int) string) {
	w.block(word, d.Name, func() {
		for i, s := range d.T.Names {
			w.line(name(s), behind(i), ",")
		}
	})
}

func (w *writer) resource(d api.Def) {
	if len(d.F) == 0 {
		w.line("resource ", name(d.Name), ";")
		return
	}
	w.block("resource", d.Name, func() { w.funcs(d.F) })
}

// function tells a function's text.
func function(f api.Func) string {
	s := "(" + joined(len(f.P), func(i int) string { return name(f.P[i]) + ": " + text(f.T[i]) }) + ")"
	if !isNone(f.R) {
		s += " -> " + text(f.R)
	}
	switch f.Kind {
	case api.FuncMake:
		return "constructor" + s + ";"
	case api.FuncStatic:
		return name(f.Name) + ": static func" + s + ";"
	}
	return name(f.Name) + ": func" + s + ";"
}

// text tells a type's text.
func text(t api.Type) string {
	word := func(within string) string { return words[t.Kind] + "<" + within + ">" }
	switch t.Kind {
	case api.TNamed:
		return name(t.Names[0])
	case api.TOwn, api.TBorrow:
		return word(name(t.Names[0]))
	case api.TList, api.TOption, api.TTuple:
		return word(joined(len(t.L), func(i int) string { return text(t.L[i]) }))
	case api.TResult:
		return result(t.L[0], t.L[1], word)
	}
	return words[t.Kind]
}

// result tells a result's text, of which what stands in its angles is put by a closure.
func result(good, bad api.Type, put func(string) string) string {
	switch {
	case isNone(good) && isNone(bad):
		return words[api.TResult]
	case isNone(bad):
		return put(text(good))
	case isNone(good):
		return put("_, " + text(bad))
	}
	return put(text(good) + ", " + text(bad))
}

// path tells a path's text.
func path(p api.Path) string {
	if p.Pkg == "" {
		return name(p.Name)
	}
	space, pkg, _ := strings.Cut(p.Pkg, ":")
	return name(space) + ":" + name(pkg) + "/" + name(p.Name) + version(p.Version)
}

// version tells what is written behind what has a version, or has none.
func version(s string) string {
	if s == "" {
		return ""
	}
	return "@" + s
}

// name tells a name's text: none is to be taken for a word of the language.
func name(s string) string {
	if lex.Word(s) {
		return "%" + s
	}
	return s
}

// joined tells as many texts, made by a closure, with commas between.
func joined(n int, part func(int) string) string {
	var l []string
	for i := range n {
		l = append(l, part(i))
	}
	return strings.Join(l, ", ")
}
