package value

import (
	"strconv"
	"strings"

	"scarf/api"
)

// Text tells a value's text.
func Text(t api.Type, v api.Val) (string, api.Errno) {
	if e := Check(t, v); e != api.OK {
		return "", e
	}
	return text(plain(t), v), api.OK
}

// text tells the text of a value that is one of the plain type.
func text(t api.Type, v api.Val) string {
	switch t.Kind {
	case api.TBool:
		return strconv.FormatBool(v.N == 1)
	case api.TU64:
		return strconv.FormatUint(uint64(v.N), 10)
	case api.TChar:
		return "U+" + strings.ToUpper(hex(v.N))
	case api.TString:
		return `"` + characters(v.S) + `"`
	case api.TList:
		return "[" + joined(texts(t, v)) + "]"
	case api.TTuple:
		return "(" + joined(texts(t, v)) + ")"
	case api.TRecord:
		return "{" + joined(fields(t, v)) + "}"
	case api.TFlags:
		return "{" + joined(set(t, v)) + "}"
	case api.TVariant:
		return t.Names[v.N] + inside(t, v)
	case api.TOwn, api.TBorrow:
		return "#" + strconv.Itoa(v.N)
	}
	return strconv.Itoa(v.N)
}

func hex(n int) string { return strconv.FormatInt(int64(n), 16) }

func joined(l []string) string { return strings.Join(l, ", ") }

// characters tells what stands for characters within quotes.
func characters(l []int) string {
	var b strings.Builder
	for _, c := range l {
		if c < ' ' || c > '~' || c == '"' || c == '\\' {
			b.WriteString(`\u{` + hex(c) + "}")
		} else {
			b.WriteByte(byte(c))
		}
	}
	return b.String()
}

// texts tells the texts of a value's values.
func texts(t api.Type, v api.Val) []string {
	var l []string
	for i, x := range v.L {
		l = append(l, text(within(t, v, i), x))
	}
	return l
}

// fields tells those of a record, each behind its name.
func fields(t api.Type, v api.Val) []string {
	l := texts(t, v)
	for i, name := range t.Names {
		l[i] = name + ": " + l[i]
	}
	return l
}

// set tells the names of the flags that are set.
func set(t api.Type, v api.Val) []string {
	var l []string
	for i, name := range t.Names {
		if v.N>>i&1 == 1 {
			l = append(l, name)
		}
	}
	return l
}

// inside tells what is in a case, in brackets, if there is something.
func inside(t api.Type, v api.Val) string {
	if len(v.L) == 0 {
		return ""
	}
	return "(" + joined(texts(t, v)) + ")"
}
