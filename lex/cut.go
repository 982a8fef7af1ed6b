package lex

import (
	"strings"

	"scarf/api"
)

// signs are the bytes of which each is a token.
const signs = ":;,./{}()<>=@_"

// Cut cuts a text into tokens; where it can't, its place.
func Cut(s string) ([]api.Token, int, api.Errno) {
	if len(s) > api.MaxWit {
		return nil, 0, api.ErrFull
	}
	var l []api.Token
	at := 0
	for {
		idle, ok := blanks(s[at:])
		if !ok {
			return nil, at, api.ErrForm
		}
		at += idle
		if at == len(s) {
			return l, 0, api.OK
		}
		token, used := first(s[at:])
		if used == 0 {
			return nil, at, api.ErrForm
		}
		token.At = at
		l = append(l, token)
		at += used
	}
}

// blanks tells how many bytes of blanks and remarks a text begins with; false: a remark among them has no end.
func blanks(s string) (int, bool) {
	n := 0
	for {
		n += reach(s[n:], func(c byte) bool { return c == ' ' || c == '\t' || c == '\n' || c == '\r' })
		more, ok := remark(s[n:])
		if !ok {
			return 0, false
		}
		if more == 0 {
			return n, true
		}
		n += more
	}
}

// remark tells how many bytes the remark has that a text begins with (0: it begins with none); false: it has no end.
func remark(s string) (int, bool) {
	switch {
	case strings.HasPrefix(s, "//"):
		return reach(s, func(c byte) bool { return c != '\n' }), true
	case strings.HasPrefix(s, "/*"):
		return closed(s)
	}
	return 0, true
}

// closed tells how many bytes a remark that begins with /* has, up to the */ that belongs to it; false: there is none.
func closed(s string) (int, bool) {
	open := 0
	for at := 0; at+2 <= len(s); {
		switch s[at : at+2] {
		case "/*":
			open++
			at += 2
		case "*/":
			open--
			at += 2
		default:
			at++
		}
		if open == 0 {
			return at, true
		}
	}
	return 0, false
}

// first tells the token that a text, of which there is a byte at least, begins with, and how many bytes it has (0: there is none).
func first(s string) (api.Token, int) {
	kind, from, to := span(s)
	token := api.Token{Kind: kind, S: s[from:to]}
	if !mayBe(token) {
		return api.Token{}, 0
	}
	return token, to
}

// span tells by a text's first byte which kind of token it may begin with, and where that token's S begins and ends.
func span(s string) (int, int, int) {
	name := func(c byte) bool { return isLetter(c) || isDigit(c) || c == '-' }
	version := func(c byte) bool { return isDigit(c) || c == '.' }
	switch {
	case s[0] == '%':
		return api.TokName, 1, 1 + reach(s[1:], name)
	case isLetter(s[0]):
		return api.TokWord, 0, reach(s, name)
	case isDigit(s[0]):
		return api.TokVersion, 0, reach(s, version)
	case strings.HasPrefix(s, "->"):
		return api.TokSign, 0, 2
	}
	return api.TokSign, 0, 1
}

// mayBe tells whether there is a token of such a kind and text.
func mayBe(t api.Token) bool {
	switch t.Kind {
	case api.TokVersion:
		return Version(t.S)
	case api.TokSign:
		return t.S == "->" || strings.Contains(signs, t.S)
	}
	return Name(t.S)
}
