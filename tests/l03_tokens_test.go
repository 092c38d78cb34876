package tests

import (
	"fmt"
	"slices"
	"strings"
	"testing"

	"loop.example/g00531/impl"
)

func tok(kind int, text string, at int) impl.Tok {
	return impl.Tok{Kind: kind, Text: text, At: at}
}

// marked is a source without the `@` in it, and the place where that stood: the
// language has no such sign.
func marked(t *testing.T, s string) (string, int) {
	t.Helper()
	if strings.Count(s, "@") != 1 {
		t.Fatalf("%.80q has not just one mark", s)
	}
	return strings.Replace(s, "@", "", 1), strings.Index(s, "@")
}

func wantTokens(t *testing.T, s string, want ...impl.Tok) {
	t.Helper()
	got, at, code := impl.Tokens(s)
	if code != impl.SyOK || at != 0 || !slices.Equal(got, want) {
		t.Errorf("Tokens(%.80q) = %.400s, %d, %d, want %.400s, 0, 0", s, fmt.Sprint(got), at, code, fmt.Sprint(want))
	}
}

func wantNoTokens(t *testing.T, s string, at int, code int) {
	t.Helper()
	got, gotAt, gotCode := impl.Tokens(s)
	if gotCode != code || gotAt != at || len(got) != 0 {
		t.Errorf("Tokens(%.80q) = %.400s, %d, %d, want nothing, %d, %d", s, fmt.Sprint(got), gotAt, gotCode, at, code)
	}
}

func TestTokens(t *testing.T) {
	wantTokens(t, "")
	wantTokens(t, " \t\n\r \r\n")
	wantTokens(t, "a :- B12 //x\n\"q\"", tok(impl.DtSmall, "a", 0), tok(impl.DtSign, ":-", 2), tok(impl.DtBig, "B12", 5), tok(impl.DtStr, `"q"`, 13))
	wantTokens(t, "p(X,12).", tok(impl.DtSmall, "p", 0), tok(impl.DtSign, "(", 1), tok(impl.DtBig, "X", 2), tok(impl.DtSign, ",", 3), tok(impl.DtNum, "12", 4), tok(impl.DtSign, ")", 6), tok(impl.DtSign, ".", 7))
	wantTokens(t, "type\trel\rnumber\nT_1 t_1Z", tok(impl.DtSmall, "type", 0), tok(impl.DtSmall, "rel", 5), tok(impl.DtSmall, "number", 9), tok(impl.DtBig, "T_1", 16), tok(impl.DtSmall, "t_1Z", 20))
	wantTokens(t, "-5 - 0", tok(impl.DtSign, "-", 0), tok(impl.DtNum, "5", 1), tok(impl.DtSign, "-", 3), tok(impl.DtNum, "0", 5))
	wantTokens(t, "1a0B", tok(impl.DtNum, "1", 0), tok(impl.DtSmall, "a0B", 1))
	wantTokens(t, "_a__9", tok(impl.DtSign, "_", 0), tok(impl.DtSmall, "a__9", 1))
	wantTokens(t, "__", tok(impl.DtSign, "_", 0), tok(impl.DtSign, "_", 1))
	wantTokens(t, "_9", tok(impl.DtSign, "_", 0), tok(impl.DtNum, "9", 1))
	wantTokens(t, `""`, tok(impl.DtStr, `""`, 0))
	wantTokens(t, `"a""b"c`, tok(impl.DtStr, `"a"`, 0), tok(impl.DtStr, `"b"`, 3), tok(impl.DtSmall, "c", 6))
	wantTokens(t, `"// a, B(1)."`, tok(impl.DtStr, `"// a, B(1)."`, 0))
}

func TestTokensOfTheLongestSign(t *testing.T) {
	cases := []struct {
		source string
		signs  []string
	}{
		{":-", []string{":-"}}, {":--", []string{":-", "-"}}, {"!=", []string{"!="}}, {"!==", []string{"!=", "="}}, {"!!=", []string{"!", "!="}}, {"=!=", []string{"=", "!="}},
		{"<=", []string{"<="}}, {"<==", []string{"<=", "="}}, {"<<=", []string{"<", "<="}}, {"=<", []string{"=", "<"}}, {"<-", []string{"<", "-"}}, {"< =", []string{"<", "="}},
		{"! =", []string{"!", "="}}, {"-:-", []string{"-", ":-"}}, {"(),.!=<+-*|_", []string{"(", ")", ",", ".", "!=", "<", "+", "-", "*", "|", "_"}},
	}
	for _, c := range cases {
		var want []impl.Tok
		at := 0
		for _, sign := range c.signs {
			at += strings.Index(c.source[at:], sign)
			want = append(want, tok(impl.DtSign, sign, at))
			at += len(sign)
		}
		wantTokens(t, c.source, want...)
	}
}

func TestTokensOfEachByte(t *testing.T) {
	for b := range 256 {
		s := string([]byte{byte(b)})
		switch {
		case strings.Contains(" \t\n\r", s):
			wantTokens(t, s)
			wantTokens(t, "a"+s+"a", tok(impl.DtSmall, "a", 0), tok(impl.DtSmall, "a", 2))
		case b >= 'a' && b <= 'z':
			wantTokens(t, s, tok(impl.DtSmall, s, 0))
			wantTokens(t, "A"+s, tok(impl.DtBig, "A"+s, 0))
		case b >= 'A' && b <= 'Z':
			wantTokens(t, s, tok(impl.DtBig, s, 0))
			wantTokens(t, "a"+s, tok(impl.DtSmall, "a"+s, 0))
		case b >= '0' && b <= '9':
			wantTokens(t, s, tok(impl.DtNum, s, 0))
			wantTokens(t, "a"+s, tok(impl.DtSmall, "a"+s, 0))
		case s == "_":
			wantTokens(t, s, tok(impl.DtSign, s, 0))
			wantTokens(t, "a_", tok(impl.DtSmall, "a_", 0))
		case strings.Contains("(),.!=<+-*|", s):
			wantTokens(t, s, tok(impl.DtSign, s, 0))
			wantTokens(t, "a"+s+"1", tok(impl.DtSmall, "a", 0), tok(impl.DtSign, s, 1), tok(impl.DtNum, "1", 2))
		case s == `"`:
			wantNoTokens(t, s, 0, impl.SyString)
			wantNoTokens(t, "a"+s, 1, impl.SyString)
		default:
			wantNoTokens(t, s, 0, impl.SyChar)
			wantNoTokens(t, "a "+s+" a", 2, impl.SyChar)
		}
	}
}

func TestTokensOfEachByteInASymbol(t *testing.T) {
	for b := range 256 {
		s := ` "a` + string([]byte{byte(b)}) + `b" `
		switch {
		case b == '"':
			wantNoTokens(t, s, 5, impl.SyString)
		case b < 32 || b > 126 || b == '\\':
			wantNoTokens(t, s, 1, impl.SyString)
		default:
			wantTokens(t, s, tok(impl.DtStr, s[1:6], 1))
		}
	}
}

func TestTokensOfWhatStandsBehindTwoSlashes(t *testing.T) {
	wantTokens(t, "//")
	wantTokens(t, "// a b \" & 01")
	wantTokens(t, "//\n")
	wantTokens(t, "////\n//")
	wantTokens(t, "a//b\nc//d\n", tok(impl.DtSmall, "a", 0), tok(impl.DtSmall, "c", 5))
	wantTokens(t, "a//b\rc\n//\nd", tok(impl.DtSmall, "a", 0), tok(impl.DtSmall, "d", 10))
	wantTokens(t, "a // \xff\x00\n.", tok(impl.DtSmall, "a", 0), tok(impl.DtSign, ".", 8))
	wantTokens(t, "1//\n2", tok(impl.DtNum, "1", 0), tok(impl.DtNum, "2", 4))
	wantTokens(t, "<//\n=", tok(impl.DtSign, "<", 0), tok(impl.DtSign, "=", 4))
	wantNoTokens(t, "/", 0, impl.SyChar)
	wantNoTokens(t, "a / b", 2, impl.SyChar)
	wantNoTokens(t, "a /\n/ b", 2, impl.SyChar)
	wantNoTokens(t, "//\n/", 3, impl.SyChar)
	wantNoTokens(t, "/* a */", 0, impl.SyChar)
}

func TestTokensOfLimits(t *testing.T) {
	for _, first := range []string{"n", "N"} {
		kind := impl.DtSmall
		if first == "N" {
			kind = impl.DtBig
		}
		for _, more := range []string{"a", "Z", "7", "_"} {
			name := first + strings.Repeat(more, impl.MaxName-1)
			wantTokens(t, name, tok(kind, name, 0))
			wantTokens(t, " "+name+".", tok(kind, name, 1), tok(impl.DtSign, ".", 1+impl.MaxName))
			wantNoTokens(t, name+more, 0, impl.SyChar)
			wantNoTokens(t, "a( "+name+more+" &", 3, impl.SyChar)
			wantNoTokens(t, "a "+first+strings.Repeat(more, 2000), 2, impl.SyChar)
		}
	}
	for _, num := range []string{"0", "1", "9", "10", "100", "909", "999999", "1000000"} {
		wantTokens(t, num, tok(impl.DtNum, num, 0))
		wantTokens(t, "x"+" "+num+",", tok(impl.DtSmall, "x", 0), tok(impl.DtNum, num, 2), tok(impl.DtSign, ",", 2+len(num)))
	}
	for _, num := range []string{"00", "01", "010", "0000000", "01000000", "1000001", "1000010", "2000000", "9999999", "10000000", "9223372036854775807", "9223372036854775808", "18446744073709551617", strings.Repeat("1", 2000), strings.Repeat("0", 2000)} {
		wantNoTokens(t, num, 0, impl.SyNumber)
		wantNoTokens(t, "p(-"+num+") \"", 3, impl.SyNumber)
	}
	wantTokens(t, longestSymbol, tok(impl.DtStr, longestSymbol, 0))
	wantNoTokens(t, `x "`+strings.Repeat("s", impl.MaxName+1)+`" &`, 2, impl.SyString)
	wantNoTokens(t, `"`+strings.Repeat("s", 2000)+`"`, 0, impl.SyString)
}

func TestTokensFaults(t *testing.T) {
	cases := []struct {
		source string
		code   int
	}{
		{`@"`, impl.SyString}, {`@"a`, impl.SyString}, {`p(@"a).`, impl.SyString}, {`"a"@"`, impl.SyString}, {`"a" "b" @"c`, impl.SyString},
		{"@\"a\nb\" x", impl.SyString}, {"@\"a\n", impl.SyString}, {`@"a\"b"`, impl.SyString}, {`@"\"`, impl.SyString}, {"@\"\t\"", impl.SyString}, {"// \"\n@\"", impl.SyString},
		{"@:", impl.SyChar}, {"p() @: - q().", impl.SyChar}, {"p() @:= q().", impl.SyChar}, {"@::-", impl.SyChar}, {"p()@;", impl.SyChar}, {"p() @& q().", impl.SyChar}, {"x @> 1", impl.SyChar}, {"x <@> y", impl.SyChar}, {"<=@>", impl.SyChar},
		{"p(@'a')", impl.SyChar}, {"a@\\", impl.SyChar}, {"@\xc3\xbc", impl.SyChar}, {"a@\xc3\xbc", impl.SyChar}, {"a@\x00b", impl.SyChar}, {"a@\v", impl.SyChar}, {"a@\f", impl.SyChar}, {"@[x]", impl.SyChar}, {"@{x}", impl.SyChar}, {"a@?", impl.SyChar}, {"a@#", impl.SyChar}, {"@\xef\xbb\xbfa", impl.SyChar},
		{"@01 & \"", impl.SyNumber}, {"@& 01 \"", impl.SyChar}, {"@\" 01 &", impl.SyString}, {"1 @01 01", impl.SyNumber}, {"p(@007).", impl.SyNumber}, {"a @1000001b", impl.SyNumber},
		{"ok @n23456789012345678901 &", impl.SyChar},
	}
	for _, c := range cases {
		s, at := marked(t, c.source)
		wantNoTokens(t, s, at, c.code)
		wantNoProg(t, s, at, c.code)
	}
}

func TestTokensOfTheLongestSource(t *testing.T) {
	blanks := strings.Repeat(" ", impl.MaxSource)
	wantTokens(t, blanks)
	wantNoTokens(t, blanks+" ", 0, impl.SyLong)
	wantTokens(t, "//"+blanks[2:])
	wantNoTokens(t, "//"+blanks, 0, impl.SyLong)
	wantTokens(t, blanks[1:]+"a", tok(impl.DtSmall, "a", impl.MaxSource-1))
	wantNoTokens(t, blanks+"a", 0, impl.SyLong)
	wantNoTokens(t, blanks[1:]+"&", impl.MaxSource-1, impl.SyChar)
	wantNoTokens(t, "&"+blanks, 0, impl.SyLong)
	wantNoTokens(t, "a\""+blanks, 0, impl.SyLong)
	wantNoTokens(t, " 01"+blanks, 0, impl.SyLong)
	wantNoTokens(t, strings.Repeat("a", 100000), 0, impl.SyLong)
	var dots []impl.Tok
	for i := range impl.MaxSource {
		dots = append(dots, tok(impl.DtSign, ".", i))
	}
	wantTokens(t, strings.Repeat(".", impl.MaxSource), dots...)
}
