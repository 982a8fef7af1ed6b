package lex

import (
	"math/rand"
	"slices"
	"strings"
	"testing"

	"scarf/api"
)

// pick is one of a list.
func pick(r *rand.Rand, l []string) string { return l[r.Intn(len(l))] }

// pieces are what random texts are made of: tokens, what looks like some, and what stands between them.
var pieces = []string{
	"a", "b1", "ab-cd", "A", "AB-c2", "use", "package", "u8", "%a", "%use", "%AB-c", "%a-1", "%", "a-", "a--b", "aB", "1a",
	"0", "1", "12", "1.2", "1.2.3", "0.10.200", "01.2.3", "1.2.3.", "1.2.3.4", "123456789.0.1", "1234567890.0.1",
	":", ";", ",", ".", "/", "{", "}", "(", ")", "<", ">", "=", "@", "_", "->", "-", "*", "$", "\"", "\\", "#", "\xff", "\x80", "é", "\x00",
	" ", "\n", "\t", "\r", "  ", "//", "// a\n", "/*", "*/", "/**/", "/* a */", "/* // */", "// /*\n", "/*/", "/* /* */ */", "\n",
}

// gaps are blanks and remarks that have an end, of which each is one.
var gaps = []string{
	" ", "\n", "\t", "\r", "\r\n", "  ", "//\n", "// a\n", "// /* -- $ 1.2\n", "///*\n", "// */\n", "/**/", "/***/", "/* a */", "/*/ */", "/* // */", "/* /* x */ \xff */", "/*/**/*/", "/*\n*/", "// é\r\n",
}

// 10.2: all texts of few bytes of several kinds.
func TestCutAll(t *testing.T) {
	for _, x := range []struct {
		bytes string
		most  int
	}{
		{"a-> /*\n%", 5}, {"/*\n", 9}, {"/* ", 9}, {"/*a", 8}, {"a1.-", 7}, {"%aB-1", 6}, {"a;/*\xff", 6}, {"1.0", 8}, {"->a ", 7}, {"/a\n\r", 7},
	} {
		texts(x.bytes, x.most, func(s string) { same(t, s) })
	}
	for c := range 256 {
		for d := range 256 {
			s := string([]byte{byte(c), byte(d)})
			same(t, s)
			same(t, "a"+s+"a")
			same(t, "%a"+s)
			same(t, "1.2.3"+s+"b")
		}
	}
}

// 10.2: random texts.
func TestRandom(t *testing.T) {
	r := rand.New(rand.NewSource(10))
	for range 60000 {
		var b strings.Builder
		for range r.Intn(12) {
			b.WriteString(pick(r, pieces))
		}
		same(t, b.String())
	}
	for range 20000 {
		b := make([]byte, r.Intn(20))
		for i := range b {
			b[i] = byte(r.Intn(256))
		}
		same(t, string(b))
	}
	for range 300 {
		s := of(r.Intn(8200), pick(r, pieces))
		same(t, s[:min(len(s), 8190+r.Intn(5))])
	}
}

// written is a token as it stands in a text.
func written(t api.Token) string {
	if t.Kind == api.TokName {
		return "%" + t.S
	}
	return t.S
}

// randomToken is any token that there may be.
func randomToken(r *rand.Rand) api.Token {
	switch r.Intn(4) {
	case 0:
		return api.Token{Kind: api.TokWord, S: pick(r, slices.Concat(plainWords, []string{"a", "a-b", "A1", "AB-cd-E", "x9-y", of(100, "q")}))}
	case 1:
		return api.Token{Kind: api.TokName, S: pick(r, slices.Concat(plainWords, []string{"a", "a-b", "A1", "AB-cd-E", "x9-y", of(100, "q")}))}
	case 2:
		return api.Token{Kind: api.TokVersion, S: pick(r, []string{"1.2.3", "0.0.0", "10.0.999999999"})}
	}
	return api.Token{Kind: api.TokSign, S: pick(r, strings.Split("-> : ; , . / { } ( ) < > = @ _", " "))}
}

// 10.3: tokens, with blanks and remarks between, are cut into the same tokens.
func TestTokensAgain(t *testing.T) {
	r := rand.New(rand.NewSource(3))
	for range 4000 {
		var l []api.Token
		var b strings.Builder
		gap := func() {
			for range r.Intn(3) {
				b.WriteString(pick(r, gaps))
			}
		}
		gap()
		for range r.Intn(20) {
			x := randomToken(r)
			x.At = b.Len()
			l = append(l, x)
			b.WriteString(written(x) + " ")
			gap()
		}
		asCut(t, b.String(), l...)
		asCut(t, b.String()+"// the end", l...)
		if rest := strings.TrimRight(b.String(), " "); len(l) > 0 && rest == b.String()[:l[len(l)-1].At]+written(l[len(l)-1]) {
			asCut(t, rest, l...)
		}
	}
}

// 10.3: what was cut is written again, with each of the gaps between, and cut into the same tokens.
func TestGapsAgain(t *testing.T) {
	const text = "package a:b@1.2.3;interface %use{use c:d/e@0.1.0 .{x as y};type t=list<option<u8>>;f:func(a:own<r>,B-c1:result<_,t>)->s8;}/* x */world w{import %interface;}"
	const cut = "package a : b @ 1.2.3 ; interface %use { use c : d / e @ 0.1.0 . { x as y } ; type t = list < option < u8 > > ; f : func ( a : own < r > , B-c1 : result < _ , t > ) -> s8 ; } world w { import %interface ; }"
	l, _, e := Cut(text)
	var told []string
	for _, x := range l {
		told = append(told, written(x))
	}
	if e != api.OK || strings.Join(told, " ") != cut {
		t.Fatal(told, e)
	}
	for _, gap := range gaps {
		// A / ahead of a remark would be of that.
		gap = " " + gap
		var want []api.Token
		s := gap
		for _, x := range l {
			want = append(want, api.Token{Kind: x.Kind, S: x.S, At: len(s)})
			s += written(x) + gap
		}
		asCut(t, s, want...)
	}
	for _, gap := range []string{" ", "\n", "\t", "\r"} {
		again, _, e := Cut(strings.Join(told, gap))
		if e != api.OK || len(again) != len(l) {
			t.Fatal(len(again), e)
		}
		for i, x := range again {
			if x.Kind != l[i].Kind || x.S != l[i].S {
				t.Errorf("%d: %v, want %v", i, x, l[i])
			}
		}
	}
}

// R4 and R5: what is answered is the asker's own, and the same again.
func TestOwn(t *testing.T) {
	const text = "a %b 1.2.3 ->"
	l, _, _ := Cut(text)
	want := slices.Clone(l)
	other, _, _ := Cut(text)
	for i := range other {
		other[i] = api.Token{Kind: 9, S: "x", At: 99}
	}
	_ = append(other[:0], api.Token{}, api.Token{})
	if !slices.Equal(l, want) {
		t.Error(l)
	}
	Cut("/*")
	Cut("x y z -")
	asCut(t, text, want...)
}

// P1: every call ends and none panics, at bytes of all kinds.
func TestCalm(t *testing.T) {
	r := rand.New(rand.NewSource(7))
	for range 3000 {
		b := make([]byte, r.Intn(300))
		for i := range b {
			b[i] = byte(r.Intn(256))
			if r.Intn(3) > 0 {
				b[i] = "/*%-.a1\n> "[r.Intn(10)]
			}
		}
		s := string(b)
		if Name(s) != wantName(s) || Version(s) != wantVersion(s) || Word(s) != slices.Contains(plainWords, s) {
			t.Fatalf("%q", s)
		}
		same(t, s)
	}
	for _, s := range []string{of(1<<22, "/*"), of(1<<22, "a-"), of(1<<22, "1."), of(1<<22, "//")} {
		if Name(s) || Word(s) || Version(s) {
			t.Errorf("%.10q", s)
		}
		refused(t, s, 0, api.ErrFull)
	}
}
