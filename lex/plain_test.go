package lex

import (
	"regexp"
	"strings"

	"scarf/api"
)

// A second cutter, made from the chapter's words by patterns, which the program is held against.

var (
	plainName    = regexp.MustCompile(`\A([a-z][a-z0-9]*|[A-Z][A-Z0-9]*)(-([a-z][a-z0-9]*|[A-Z][A-Z0-9]*))*\z`)
	plainVersion = regexp.MustCompile(`\A(0|[1-9][0-9]{0,8})\.(0|[1-9][0-9]{0,8})\.(0|[1-9][0-9]{0,8})\z`)
	plainBlank   = regexp.MustCompile(`\A[ \t\n\r]`)
	plainLine    = regexp.MustCompile(`\A//[^\n]*`)
	plainToken   = regexp.MustCompile(`\A(?:(%[a-zA-Z0-9-]*)|([a-zA-Z][a-zA-Z0-9-]*)|([0-9][0-9.]*)|(->|[:;,./{}()<>=@_]))`)
)

// plainWords are the words of the language, as the chapter lists them.
var plainWords = strings.Split("package, interface, world, use, as, import, export, type, record, variant, enum, flags, resource, constructor, static, func, bool, s8, u8, s16, u16, s32, u32, s64, u64, f32, f64, char, string, list, option, result, tuple, own, borrow", ", ")

func wantName(s string) bool { return len(s) <= 100 && plainName.MatchString(s) }

func wantVersion(s string) bool { return plainVersion.MatchString(s) }

// plainLong tells what is behind a remark that begins with /*, each one within it taken whole; false: it has no end.
func plainLong(s string) (string, bool) {
	s = s[2:]
	for s != "" {
		switch {
		case strings.HasPrefix(s, "*/"):
			return s[2:], true
		case strings.HasPrefix(s, "/*"):
			behind, ok := plainLong(s)
			if !ok {
				return "", false
			}
			s = behind
		default:
			s = s[1:]
		}
	}
	return "", false
}

// plainIdle tells what is behind all blanks and remarks that a text begins with; false: one of these has no end.
func plainIdle(s string) (string, bool) {
	for {
		switch {
		case plainBlank.MatchString(s):
			s = s[1:]
		case plainLine.MatchString(s):
			s = s[len(plainLine.FindString(s)):]
		case strings.HasPrefix(s, "/*"):
			behind, ok := plainLong(s)
			if !ok {
				return "", false
			}
			s = behind
		default:
			return s, true
		}
	}
}

// plainFirst is the token that a text begins with, and what is behind it; false: it can't be.
func plainFirst(s string) (api.Token, string, bool) {
	m := plainToken.FindStringSubmatch(s)
	if m == nil {
		return api.Token{}, "", false
	}
	behind := s[len(m[0]):]
	switch {
	case m[1] != "":
		return api.Token{Kind: 2, S: m[1][1:]}, behind, wantName(m[1][1:])
	case m[2] != "":
		return api.Token{Kind: 1, S: m[2]}, behind, wantName(m[2])
	case m[3] != "":
		return api.Token{Kind: 3, S: m[3]}, behind, wantVersion(m[3])
	}
	return api.Token{Kind: 4, S: m[4]}, behind, true
}

// wantCut is what the chapter says of Cut.
func wantCut(s string) ([]api.Token, int, api.Errno) {
	if len(s) > 8192 {
		return nil, 0, api.ErrFull
	}
	var l []api.Token
	rest := s
	for {
		behind, ok := plainIdle(rest)
		if !ok {
			return nil, len(s) - len(rest), api.ErrForm
		}
		if behind == "" {
			return l, 0, api.OK
		}
		t, next, ok := plainFirst(behind)
		t.At = len(s) - len(behind)
		if !ok {
			return nil, t.At, api.ErrForm
		}
		l, rest = append(l, t), next
	}
}
