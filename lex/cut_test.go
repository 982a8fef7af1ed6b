package lex

import (
	"slices"
	"strings"
	"testing"

	"scarf/api"
)

func word(at int, s string) api.Token { return api.Token{Kind: api.TokWord, S: s, At: at} }

func name(at int, s string) api.Token { return api.Token{Kind: api.TokName, S: s, At: at} }

func version(at int, s string) api.Token { return api.Token{Kind: api.TokVersion, S: s, At: at} }

func sign(at int, s string) api.Token { return api.Token{Kind: api.TokSign, S: s, At: at} }

// asCut asks that a text is cut into these tokens.
func asCut(t *testing.T, s string, want ...api.Token) {
	t.Helper()
	l, at, e := Cut(s)
	if e != api.OK || at != 0 || !slices.Equal(l, want) {
		t.Errorf("Cut(%q): %v %d %d, want %v", s, l, at, e, want)
	}
}

// refused asks that a text is refused at a place.
func refused(t *testing.T, s string, place int, want api.Errno) {
	t.Helper()
	l, at, e := Cut(s)
	if e != want || at != place || len(l) != 0 {
		t.Errorf("Cut(%.200q): %d tokens %d %d, want %d %d", s, len(l), at, e, place, want)
	}
}

// same asks that a text is cut as the chapter says.
func same(t *testing.T, s string) {
	t.Helper()
	l, at, e := Cut(s)
	want, place, err := wantCut(s)
	if e != err || at != place || !slices.Equal(l, want) {
		t.Fatalf("Cut(%q): %v %d %d, want %v %d %d", s, l, at, e, want, place, err)
	}
}

// The chapter's examples.
func TestExamples(t *testing.T) {
	asCut(t, "a-b: %type // x", word(0, "a-b"), sign(3, ":"), name(5, "type"))
	refused(t, "a--b", 0, api.ErrForm)
	asCut(t, "a_b", word(0, "a"), sign(1, "_"), word(2, "b"))
	refused(t, "1.2", 0, api.ErrForm)
}

// 10.2: nothing, and blanks.
func TestBlanks(t *testing.T) {
	for _, s := range []string{"", " ", "\t", "\n", "\r", " \t\r\n \n\n\t\r\r", of(8192, " "), of(2048, " \t\r\n")} {
		asCut(t, s)
	}
	asCut(t, " a\tb\nc\rd ", word(1, "a"), word(3, "b"), word(5, "c"), word(7, "d"))
	asCut(t, "\r\n\r\na", word(4, "a"))
	for c := range 256 {
		s := string([]byte{byte(c)})
		if strings.Contains(" \t\n\r", s) {
			continue
		}
		if l, _, e := Cut(s); e == api.OK && len(l) != 1 {
			t.Errorf("Cut(%q): %v", s, l)
		}
	}
	refused(t, "\v", 0, api.ErrForm)
	refused(t, "a \f", 2, api.ErrForm)
	refused(t, "a\x00", 1, api.ErrForm)
	refused(t, " \u00a0", 1, api.ErrForm)
	refused(t, "\ufeffa", 0, api.ErrForm)
}

// 10.2: MaxWit bytes, and more.
func TestMaxWit(t *testing.T) {
	const most = 8192
	if api.MaxWit != most {
		t.Fatal(api.MaxWit)
	}
	asCut(t, of(most-1, " ")+"a", word(most-1, "a"))
	asCut(t, "a"+of(most-1, "\n"), word(0, "a"))
	asCut(t, "//"+of(most-2, "x"))
	asCut(t, "/*"+of(most-4, "x")+"*/")
	asCut(t, of(most/4, "/*")+of(most/4, "*/"))
	asCut(t, of(most/4, "/**/"))
	for _, l := range []string{of(most, ";"), of(most/2, "a "), of(most/2, "->"), of(most/2, "%a"), of(most/4, "/*")} {
		same(t, l)
	}
	if l, _, e := Cut(of(most, "{")); e != api.OK || len(l) != most || l[most-1] != sign(most-1, "{") {
		t.Errorf("%d tokens, %d", len(l), e)
	}
	// More are too many, whatever they are.
	for _, n := range []int{most + 1, most + 2, 2 * most, 1 << 20} {
		for _, c := range []string{" ", "a", ";", "\xff", "-", "//", "/*", "1"} {
			refused(t, of(n, c)[:n], 0, api.ErrFull)
		}
	}
	refused(t, of(most, " ")+"a", 0, api.ErrFull)
	refused(t, "a--b"+of(most, " "), 0, api.ErrFull)
	refused(t, "/*"+of(most, " "), 0, api.ErrFull)
	refused(t, "/*"+of(most-4, " ")+"*/ ", 0, api.ErrFull)
	// As many as may be, which can't be cut.
	refused(t, "a/*"+of(most-3, " "), 1, api.ErrForm)
	refused(t, of(most-1, " ")+"-", most-1, api.ErrForm)
	refused(t, of(most, "a"), 0, api.ErrForm)
	refused(t, of(most/2, "/*"), 0, api.ErrForm)
}

// 10.2: remarks up to a line's end.
func TestLines(t *testing.T) {
	asCut(t, "//")
	asCut(t, "// a")
	asCut(t, "//\n")
	asCut(t, "///")
	asCut(t, "//a\n//b\n//")
	asCut(t, "a // b\nc", word(0, "a"), word(7, "c"))
	asCut(t, "a//b\nc", word(0, "a"), word(5, "c"))
	asCut(t, "// a // b\nc", word(10, "c"))
	asCut(t, "//\na", word(3, "a"))
	// No line's end but the byte 10.
	asCut(t, "// a\rb\r\nc", word(8, "c"))
	asCut(t, "// a\vb\fc\x00d\u0085e\u2028f\ng", word(18, "g"))
	// What stands in a remark is of no matter.
	asCut(t, "a // -- $ 01 %\n: b", word(0, "a"), sign(15, ":"), word(17, "b"))
	asCut(t, "// /*\na", word(6, "a"))
	asCut(t, "// */\na", word(6, "a"))
	asCut(t, "// /* */ b\na", word(11, "a"))
	asCut(t, "// /*\na // */", word(6, "a"))
	refused(t, "// /*\n*/", 6, api.ErrForm)
}

// 10.2: remarks from /* to */.
func TestClosed(t *testing.T) {
	asCut(t, "/**/")
	asCut(t, "/***/")
	asCut(t, "/****/")
	asCut(t, "/* a */")
	asCut(t, "/*a*/b", word(5, "b"))
	asCut(t, "a/**/b", word(0, "a"), word(5, "b"))
	asCut(t, "a /* b\n c */ d", word(0, "a"), word(13, "d"))
	asCut(t, "/**//**/ /**/a", word(13, "a"))
	asCut(t, "/* -- $ 01 % */a", word(15, "a"))
	// Others within.
	asCut(t, "/*/**/*/")
	asCut(t, "/* /* */ */ a", word(12, "a"))
	asCut(t, "/*/*/**/*/*/a", word(12, "a"))
	asCut(t, "/* a /* b */ c /* d */ e */f", word(27, "f"))
	asCut(t, "/*/**//**/*/f", word(12, "f"))
	asCut(t, of(100, "/*")+of(100, "*/")+"a", word(400, "a"))
	// A byte belongs to one beginning or end alone.
	asCut(t, "/*/ */")
	asCut(t, "/**/ a", word(5, "a"))
	asCut(t, "/*/*/ */ */a", word(11, "a"))
	asCut(t, "/* **/a", word(6, "a"))
	asCut(t, "/* //* */ */a", word(12, "a"))
	// // within them is of no matter.
	asCut(t, "/* // */ a", word(9, "a"))
	asCut(t, "/* // a\n */b", word(11, "b"))
	asCut(t, "/*//*/ */ */a", word(12, "a"))
	asCut(t, "/* // /* */ */a", word(14, "a"))
	// And they are of no matter within a remark up to a line's end.
	asCut(t, "/* a */ // /* \n/* b */c", word(22, "c"))
}

// 10.2: the blanks and remarks with one that has no end.
func TestOpen(t *testing.T) {
	for _, s := range []string{"/*", "/*/", "/**", "/* a", "/* *", "/* * /", "/*\n", "/* // *", "/*/*", "/*/**/", "/*/*/ */", "/* /* */", "/* /* */ /* */", "/* a\nb", "/*/*//*/*/ */ */", of(50, "/*") + of(49, "*/")} {
		refused(t, s, 0, api.ErrForm)
		refused(t, " "+s, 0, api.ErrForm)
		refused(t, "\n\t "+s, 0, api.ErrForm)
		refused(t, "// x\n"+s, 0, api.ErrForm)
		refused(t, "/* x */"+s, 0, api.ErrForm)
		refused(t, " /*x*/ //y\n "+s, 0, api.ErrForm)
		refused(t, "a"+s, 1, api.ErrForm)
		refused(t, "a "+s, 1, api.ErrForm)
		refused(t, "a // x\n"+s, 1, api.ErrForm)
		refused(t, "a /* x */ "+s, 1, api.ErrForm)
		refused(t, " a /* x */ bcd /* y */ // z\n "+s, 14, api.ErrForm)
		refused(t, "/**/%ab"+s, 7, api.ErrForm)
		refused(t, "1.2.3"+s, 5, api.ErrForm)
		refused(t, "a->"+s, 0, api.ErrForm)
		refused(t, "a ->\n"+s, 4, api.ErrForm)
		refused(t, ";"+s+" $", 1, api.ErrForm)
		refused(t, "//"+s[2:]+"\n"+s, place("//"+s[2:]+"\n"+s), api.ErrForm)
	}
	// A */ by itself is none's end.
	refused(t, "*/", 0, api.ErrForm)
	refused(t, "/**/*/", 4, api.ErrForm)
	refused(t, "/* */ */", 6, api.ErrForm)
	refused(t, "/*/**/*/*/", 8, api.ErrForm)
	refused(t, "a*/", 1, api.ErrForm)
	refused(t, "// /*\n */", 7, api.ErrForm)
}

// place is where the chapter says that a text can't be cut.
func place(s string) int {
	_, at, _ := wantCut(s)
	return at
}

// 10.2: a / that begins no remark.
func TestSlash(t *testing.T) {
	asCut(t, "/", sign(0, "/"))
	asCut(t, "/ /", sign(0, "/"), sign(2, "/"))
	asCut(t, "a/b", word(0, "a"), sign(1, "/"), word(2, "b"))
	asCut(t, "a:b/c@1.2.3", word(0, "a"), sign(1, ":"), word(2, "b"), sign(3, "/"), word(4, "c"), sign(5, "@"), version(6, "1.2.3"))
	asCut(t, "/\n/", sign(0, "/"), sign(2, "/"))
	asCut(t, "/ // /", sign(0, "/"))
	asCut(t, "/;/**/", sign(0, "/"), sign(1, ";"))
	refused(t, "/ *", 2, api.ErrForm)
}

// 10.2: a % and a name.
func TestNames(t *testing.T) {
	asCut(t, "%a", name(0, "a"))
	asCut(t, " %a-B1 ", name(1, "a-B1"))
	asCut(t, "%a%b", name(0, "a"), name(2, "b"))
	asCut(t, "a%b", word(0, "a"), name(1, "b"))
	asCut(t, "%a_b", name(0, "a"), sign(2, "_"), word(3, "b"))
	asCut(t, "%a.b", name(0, "a"), sign(2, "."), word(3, "b"))
	asCut(t, "%a/**/b", name(0, "a"), word(6, "b"))
	asCut(t, "%a1.c", name(0, "a1"), sign(3, "."), word(4, "c"))
	asCut(t, "%"+of(100, "x"), name(0, of(100, "x")))
	for _, w := range plainWords {
		asCut(t, "%"+w+" "+w, name(0, w), word(len(w)+2, w))
	}
	for _, s := range []string{"%", "% a", "%%a", "%\n", "%1", "%1a", "%-a", "%a-", "%a--b", "%aB", "%a-1", "%_", "%_a", "%;", "%//", "%/**/a", "%->", "%a->b", "%1.2.3", "%\xff", "%é", "%" + of(101, "x")} {
		refused(t, s, 0, api.ErrForm)
		refused(t, "a "+s, 2, api.ErrForm)
		refused(t, "{%b:"+s, 4, api.ErrForm)
	}
	refused(t, "%a%", 2, api.ErrForm)
	refused(t, "%a\xff", 2, api.ErrForm)
}

// 10.2: words.
func TestWords(t *testing.T) {
	for _, w := range plainWords {
		asCut(t, w, word(0, w))
		asCut(t, w+";"+w, word(0, w), sign(len(w), ";"), word(len(w)+1, w))
		asCut(t, w+"-a", word(0, w+"-a"))
		asCut(t, w+"1", word(0, w+"1"))
	}
	asCut(t, "a1", word(0, "a1"))
	asCut(t, "ab-c2-D3E", word(0, "ab-c2-D3E"))
	asCut(t, "a1.b", word(0, "a1"), sign(2, "."), word(3, "b"))
	asCut(t, "a:b", word(0, "a"), sign(1, ":"), word(2, "b"))
	asCut(t, "list<u8>", word(0, "list"), sign(4, "<"), word(5, "u8"), sign(7, ">"))
	asCut(t, "f: func(a: s8,b:own<r>) -> u8;",
		word(0, "f"), sign(1, ":"), word(3, "func"), sign(7, "("), word(8, "a"), sign(9, ":"), word(11, "s8"), sign(13, ","), word(14, "b"), sign(15, ":"),
		word(16, "own"), sign(19, "<"), word(20, "r"), sign(21, ">"), sign(22, ")"), sign(24, "->"), word(27, "u8"), sign(29, ";"))
	asCut(t, of(100, "x"), word(0, of(100, "x")))
	for _, s := range []string{"a-", "a- b", "a--b", "a-->", "a->", "a->b", "aB", "Ab", "a-1", "a-bC", "a-/**/", of(101, "x"), of(50, "a-") + "b"} {
		refused(t, s, 0, api.ErrForm)
		refused(t, " // \n"+s, 5, api.ErrForm)
		refused(t, "(1.2.3"+s, 6, api.ErrForm)
	}
	asCut(t, "a ->b", word(0, "a"), sign(2, "->"), word(4, "b"))
	asCut(t, ")->b", sign(0, ")"), sign(1, "->"), word(3, "b"))
	refused(t, "a\xff", 1, api.ErrForm)
	refused(t, "aé", 1, api.ErrForm)
	refused(t, "éa", 0, api.ErrForm)
}

// 10.2: versions.
func TestVersions(t *testing.T) {
	for _, s := range []string{"1.2.3", "0.0.0", "10.200.3000", "123456789.123456789.123456789"} {
		asCut(t, s, version(0, s))
		asCut(t, "@"+s+";", sign(0, "@"), version(1, s), sign(1+len(s), ";"))
		asCut(t, s+"a", version(0, s), word(len(s), "a"))
		asCut(t, s+"%a", version(0, s), name(len(s), "a"))
		asCut(t, s+"->", version(0, s), sign(len(s), "->"))
		asCut(t, s+" ."+s, version(0, s), sign(len(s)+1, "."), version(len(s)+2, s))
		asCut(t, s+"/**/"+s, version(0, s), version(len(s)+4, s))
		refused(t, s+"-a", len(s), api.ErrForm)
		refused(t, s+".", 0, api.ErrForm)
		refused(t, s+".{a}", 0, api.ErrForm)
		refused(t, s+"."+s, 0, api.ErrForm)
	}
	for _, s := range []string{"0", "1", "12", "1.", "1..", "1.2", "1.2.", "1..2", "1.2..3", "1.2.3.4", "01.2.3", "1.02.3", "1.2.03", "1234567890.1.1", "1.1.1234567890", "1a", "1-a", "1.a.b", "1 .2.3", "1.2 .3"} {
		refused(t, s, 0, api.ErrForm)
		refused(t, "a@"+s, 2, api.ErrForm)
	}
	asCut(t, ".1.2.3", sign(0, "."), version(1, "1.2.3"))
	refused(t, ".1.2", 1, api.ErrForm)
	refused(t, "a.1", 2, api.ErrForm)
	refused(t, "a1.2.3", 3, api.ErrForm)
}

// 10.2: signs, and bytes that are none.
func TestSigns(t *testing.T) {
	const one = ":;,./{}()<>=@_"
	for i := range len(one) {
		c := one[i : i+1]
		asCut(t, c, sign(0, c))
		asCut(t, " "+c+" ", sign(1, c))
		asCut(t, "a"+c+" b", word(0, "a"), sign(1, c), word(3, "b"))
		for j := range len(one) {
			d := one[j : j+1]
			if c+d == "//" {
				continue
			}
			asCut(t, c+d, sign(0, c), sign(1, d))
		}
	}
	for c := range 256 {
		s := string([]byte{byte(c)})
		if strings.Contains(one+" \t\n\rabcdefghijklmnopqrstuvwxyzABCDEFGHIJKLMNOPQRSTUVWXYZ", s) {
			if _, _, e := Cut(s); e != api.OK {
				t.Errorf("Cut(%q): %d", s, e)
			}
			continue
		}
		refused(t, s, 0, api.ErrForm)
		refused(t, "a "+s, 2, api.ErrForm)
		refused(t, "/**/"+s+";", 4, api.ErrForm)
		if s != ">" && s != "-" {
			refused(t, "-"+s, 0, api.ErrForm)
		}
	}
	asCut(t, "->", sign(0, "->"))
	asCut(t, "->->", sign(0, "->"), sign(2, "->"))
	asCut(t, "->>", sign(0, "->"), sign(2, ">"))
	asCut(t, "->a", sign(0, "->"), word(2, "a"))
	asCut(t, "-> -> >", sign(0, "->"), sign(3, "->"), sign(6, ">"))
	asCut(t, ">", sign(0, ">"))
	asCut(t, ">>", sign(0, ">"), sign(1, ">"))
	asCut(t, "=>", sign(0, "="), sign(1, ">"))
	for _, s := range []string{"-", "- >", "-a", "--", "-->", "-/**/>", "-\n>", "-1", "-%a", "-;", "-<"} {
		refused(t, s, 0, api.ErrForm)
		refused(t, "; "+s, 2, api.ErrForm)
	}
	refused(t, "->-", 2, api.ErrForm)
}

// 10.2: bytes beyond 127.
func TestBeyond(t *testing.T) {
	for c := 128; c < 256; c++ {
		s := string([]byte{byte(c)})
		refused(t, s, 0, api.ErrForm)
		refused(t, " a"+s, 2, api.ErrForm)
		refused(t, "%"+s, 0, api.ErrForm)
		refused(t, "1.2.3"+s, 5, api.ErrForm)
		refused(t, "//\n"+s, 3, api.ErrForm)
		asCut(t, "// "+s+"\na", word(5, "a"))
		asCut(t, "//"+s)
		asCut(t, "/*"+s+"*/a", word(5, "a"))
		asCut(t, "a/* "+s+s+" */", word(0, "a"))
		refused(t, "a /* "+s, 1, api.ErrForm)
	}
	asCut(t, "/* ä€😀 */ // é\na", word(len("/* ä€😀 */ // é\n"), "a"))
	asCut(t, "// \xff\xfe\xc0\x80\n;", sign(8, ";"))
}

// 10.2: the first fault is told.
func TestFirst(t *testing.T) {
	refused(t, "a-- /*", 0, api.ErrForm)
	refused(t, "a /* b--", 1, api.ErrForm)
	refused(t, "a -- b-- 1.2", 2, api.ErrForm)
	refused(t, "a 1.2 b--", 2, api.ErrForm)
	refused(t, "a % 1.2", 2, api.ErrForm)
	refused(t, "a \xff \xfe", 2, api.ErrForm)
	refused(t, "a /* */ - /*", 8, api.ErrForm)
	refused(t, "a /* */ b /*", 9, api.ErrForm)
	refused(t, "/* /* */ 1.2", 0, api.ErrForm)
	refused(t, "// -- 1.2 /*\na 1.2 /*", 15, api.ErrForm)
	refused(t, "1.2/*", 0, api.ErrForm)
	refused(t, "%/*", 0, api.ErrForm)
	refused(t, "1.2.3/*", 5, api.ErrForm)
	refused(t, "a-/*", 0, api.ErrForm)
	refused(t, "-/*", 0, api.ErrForm)
}
