package lex

import (
	"strings"
	"testing"
)

// texts goes through all texts of these bytes, up to so many of them.
func texts(bytes string, most int, yield func(string)) {
	yield("")
	if most == 0 {
		return
	}
	for i := range len(bytes) {
		texts(bytes, most-1, func(s string) { yield(bytes[i:i+1] + s) })
	}
}

// of is so many times a text.
func of(n int, s string) string { return strings.Repeat(s, n) }

// 10.1: Name.
func TestName(t *testing.T) {
	for _, x := range []struct {
		s  string
		ok bool
	}{
		{"", false},
		{"a", true}, {"z", true}, {"A", true}, {"Z", true}, {"m", true}, {"M", true},
		{"0", false}, {"9", false}, {"-", false}, {"_", false}, {".", false}, {"%", false}, {" ", false}, {"`", false}, {"{", false}, {"@", false}, {"[", false},
		// Bytes and no more than MaxName.
		{of(99, "a"), true}, {of(100, "a"), true}, {of(101, "a"), false}, {of(200, "a"), false}, {of(100, "A"), true}, {of(101, "A"), false},
		{of(49, "a-") + "ab", true}, {of(50, "a-") + "a", false}, {of(50, "a-"), false}, {"a" + of(99, "1"), true}, {"a" + of(100, "1"), false},
		// A -.
		{"a-b", true}, {"ab-cd-ef", true}, {"-a", false}, {"a-", false}, {"a--b", false}, {"--", false}, {"a-b-", false}, {"-a-b", false}, {"a-b--c", false}, {"--a", false}, {"a--", false},
		// Digits.
		{"a1", true}, {"a1b2", true}, {"A1B2", true}, {"a0", true}, {"a9", true}, {"1a", false}, {"a-1", false}, {"a-1b", false}, {"a-b1", true}, {"a1-b", true}, {"9-a", false}, {"a-0-b", false}, {"A-1B", false},
		// Sizes.
		{"abc", true}, {"ABC", true}, {"aB", false}, {"Ab", false}, {"abC", false}, {"ABc", false}, {"a1B", false}, {"A1b", false}, {"a-B", true}, {"A-b", true}, {"ab-CD-ef", true}, {"AB-cd1-EF2", true}, {"a-bC", false}, {"a-Bc", false}, {"Ab-c", false}, {"aB-c", false},
		// Other bytes.
		{"a_b", false}, {"a.b", false}, {"a b", false}, {" a", false}, {"a ", false}, {"%a", false}, {"a%", false}, {"a:b", false}, {"a/b", false}, {"a\n", false}, {"a\x00", false}, {"\x00", false},
		{"\x80", false}, {"a\x80", false}, {"\xffa", false}, {"a\xffb", false}, {"é", false}, {"aé", false}, {"É", false}, {"a-é", false}, {"а", false}, {"a\xe1", false}, {"a\xb1", false},
		// Words of the language are names, too.
		{"use", true}, {"s8", true}, {"result", true}, {"USE", true}, {"a-use", true},
	} {
		if Name(x.s) != x.ok {
			t.Errorf("Name(%q): %v", x.s, !x.ok)
		}
	}
}

// 10.1: Name, of all texts of few bytes.
func TestNameAll(t *testing.T) {
	same := func(s string) {
		if Name(s) != wantName(s) {
			t.Fatalf("Name(%q): %v", s, Name(s))
		}
	}
	texts("az09AZ-_", 5, same)
	texts("a1B-", 8, same)
	for c := range 256 {
		for _, s := range []string{"%", "%%", "a%", "A%", "%a", "%A", "a%b", "A%B", "a-%", "a-%b", "a%-b", "a1%"} {
			same(strings.ReplaceAll(s, "%", string([]byte{byte(c)})))
		}
		for d := range 256 {
			same(string([]byte{byte(c), byte(d)}))
		}
	}
}

// 10.1: Name, of as many bytes as may be, and one more.
func TestNameLong(t *testing.T) {
	for _, head := range []string{"", "a-", "ab-CD-", "A1-"} {
		for n := range 150 {
			for _, s := range []string{head + of(n, "x"), head + of(n, "X"), head + of(n, "-"), of(n, head), of(n, head) + "z"} {
				if Name(s) != wantName(s) {
					t.Fatalf("Name(%q): %v", s, Name(s))
				}
			}
		}
	}
	for _, n := range []int{8192, 8193, 1 << 20} {
		for _, s := range []string{of(n, "a"), of(n, "-"), of(n, "a-") + "a"} {
			if Name(s) {
				t.Errorf("Name of %d bytes", len(s))
			}
		}
	}
}

// 10.1: Word.
func TestWord(t *testing.T) {
	is := map[string]bool{}
	for _, w := range plainWords {
		is[w] = true
	}
	if len(is) != 35 {
		t.Fatalf("%d words", len(is))
	}
	for w := range is {
		if !Word(w) {
			t.Errorf("Word(%q): false", w)
		}
		if !Name(w) {
			t.Errorf("Name(%q): false", w)
		}
		other := []string{strings.ToUpper(w), strings.ToUpper(w[:1]) + w[1:], w[:len(w)-1] + strings.ToUpper(w[len(w)-1:]), "%" + w, w + w}
		for i := range len(w) {
			other = append(other, w[:i], w[i+1:], w[:i]+w[i+1:], w[:i]+w[i:i+1]+w[i:])
		}
		for _, c := range []string{" ", "-", "s", "e", "0", "4", "8", "\x00", "\n", "-a", "\xff"} {
			other = append(other, w+c, c+w)
		}
		for _, s := range other {
			if s != w && Word(s) != is[s] {
				t.Errorf("Word(%q): %v", s, Word(s))
			}
		}
	}
	for _, s := range []string{"", "a", "name", "include", "with", "async", "future", "stream", "float32", "float64", "u128", "s128", "u", "s", "f", "u1", "s1", "u4", "f8", "f16", "f128", "v128", "i32", "i64", "int", "none", "some", "ok", "error", "self", "package interface", "method", "static func", "_", "use,", "component", "core", "module", "function", "unit", "map", "error-context", of(1000, "use")} {
		if Word(s) {
			t.Errorf("Word(%q): true", s)
		}
	}
}

// 10.1: Word, of all texts of few bytes.
func TestWordAll(t *testing.T) {
	is := map[string]bool{}
	for _, w := range plainWords {
		is[w] = true
	}
	for _, letters := range []string{"suf123468", "asuetyp", "ownlist", "Us8"} {
		texts(letters, 4, func(s string) {
			if Word(s) != is[s] {
				t.Fatalf("Word(%q): %v", s, Word(s))
			}
		})
	}
}

// 10.1: Version.
func TestVersion(t *testing.T) {
	for _, x := range []struct {
		s  string
		ok bool
	}{
		{"", false}, {"1", false}, {"1.2", false}, {"1.2.3", true}, {"1.2.3.4", false}, {"1.2.3.4.5", false},
		// 0.
		{"0.0.0", true}, {"0.1.0", true}, {"1.0.10", true}, {"10.20.30", true}, {"00.1.2", false}, {"1.00.2", false}, {"1.2.00", false}, {"01.2.3", false}, {"1.02.3", false}, {"1.2.03", false}, {"0.0.000", false}, {"1.2.30", true}, {"1.2.0", true},
		// Digits.
		{"123456789.1.1", true}, {"1.123456789.1", true}, {"1.1.123456789", true}, {"999999999.999999999.999999999", true}, {"100000000.100000000.100000000", true},
		{"1234567890.1.1", false}, {"1.1234567890.1", false}, {"1.1.1234567890", false}, {"0123456789.1.1", false}, {"1.1.0000000000", false}, {"1.1.1000000000", false}, {"1.1.18446744073709551617", false},
		// Points.
		{".", false}, {"..", false}, {"...", false}, {".1.2.3", false}, {"1.2.3.", false}, {"1..2.3", false}, {"1.2..3", false}, {"1..2", false}, {".1.2", false}, {"1.2.", false}, {"1..", false}, {"..1", false},
		// Other bytes.
		{"1.2.a", false}, {"a.b.c", false}, {"1.2.3a", false}, {"a1.2.3", false}, {"1.2.3-a", false}, {"-1.2.3", false}, {"+1.2.3", false}, {"1.-2.3", false}, {"1.2.+3", false}, {" 1.2.3", false}, {"1.2.3 ", false}, {"1. 2.3", false}, {"1.2.3\n", false}, {"1,2,3", false}, {"1.2,3", false}, {"1.2.3\x00", false}, {"1.2.\xb3", false}, {"1.2.٣", false}, {"x", false}, {"1_0.2.3", false}, {"0x1.2.3", false}, {"1.2./", false}, {"1.2.:", false},
	} {
		if Version(x.s) != x.ok {
			t.Errorf("Version(%q): %v", x.s, !x.ok)
		}
	}
}

// 10.1: Version, of all texts of few bytes, and of numbers of all sizes.
func TestVersionAll(t *testing.T) {
	same := func(s string) {
		if Version(s) != wantVersion(s) {
			t.Fatalf("Version(%q): %v", s, Version(s))
		}
	}
	texts("019.a", 7, same)
	texts("01.", 9, same)
	for c := range 256 {
		for _, s := range []string{"%.2.3", "1.%.3", "1.2.%", "1%2.3", "1.2%3", "%1.2.3", "1.2.3%", "1.2%.3"} {
			same(strings.ReplaceAll(s, "%", string([]byte{byte(c)})))
		}
	}
	for n := range 24 {
		for _, d := range []string{"0", "1", "9"} {
			for _, s := range []string{"%.2.3", "1.%.3", "1.2.%", "%.%.%", "1%.2.3", "1.2%.3", "1.2.3%", "0%.0.0", "%", "1.2.3.%"} {
				same(strings.ReplaceAll(s, "%", of(n, d)))
			}
		}
		same(of(n, "1."))
		same(of(n, "1.") + "1")
	}
	same(of(1<<20, "1"))
	same(of(1<<20, "."))
}
