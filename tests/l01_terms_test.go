package tests

import (
	"math"
	"slices"
	"strings"
	"testing"

	"loop.example/g00531/impl"
)

// nested is a constructor around a constructor, depth deep, around core.
func nested(depth int, core string) string {
	return strings.Repeat("S(", depth) + core + strings.Repeat(")", depth)
}

// longTerm is a term of exactly n bytes, made of arguments of one byte.
func longTerm(n int) string {
	head := "A"
	if n%2 == 1 {
		head = "Ab"
	}
	count := (n - len(head) - 1) / 2
	return head + "(" + strings.TrimSuffix(strings.Repeat("1,", count), ",") + ")"
}

var longestName = "N" + strings.Repeat("a", impl.MaxName-1)
var longestSymbol = `"` + strings.Repeat("s", impl.MaxName) + `"`

func numbers() []string {
	return []string{"0", "1", "-1", "9", "10", "-10", "12", "999999", "1000000", "-999999", "-1000000"}
}

func symbols() []string {
	return []string{`""`, `"a"`, `"a b"`, `" "`, `"!"`, `"#"`, `"~"`, `"("`, `")"`, `","`, `"(,"`, `"A(1)"`, `"12"`, `"S(1),2)"`, longestSymbol}
}

func constructors() []string {
	return []string{
		"A", "Z", "Nil", "A0", "A_", "Az9_Z", longestName, longestName + "(" + longestName + ")",
		"S(0)", "S(-1)", `S("")`, "S(Nil)", "S(S(S(0)))", "Cons(1,Nil)", "Cons(1,Cons(2,Nil))",
		`Node("(,",S(1),2)`, `P(")",")")`, `P("(","(")`, `P(",",",")`, `P(Q(",)"),"(A")`, "P(A,B(C,D),E)",
		longTerm(impl.MaxTerm), longTerm(impl.MaxTerm - 1), nested(66, "10"), nested(66, "Ab"),
	}
}

func noTerms() []string {
	return []string{
		"", " ", "x", "nil", "_", "_A", "+1", "-", "--1", "-0", "00", "01", "-01", "1.0", "1 ", " 1", "1,2", "1a", "1e3", "0x1",
		"1000001", "-1000001", "9999999", "10000000", "9223372036854775808", "-9223372036854775809", "99999999999999999999999",
		`"`, `"a`, `a"`, `"a"b`, `"a""b"`, `"""`, `"\"`, `"a\b"`, `"\""`, "\"\t\"", "\"\n\"", "\"\x1f\"", "\"\x7f\"", "\"\x00\"", `"ü"`, `'a'`,
		`"` + strings.Repeat("s", impl.MaxName+1) + `"`,
		"N" + strings.Repeat("a", impl.MaxName), "Nü", "N-", "N a", "N.", "N\x00",
		"Nil()", "Nil(", "Nil)", "(Nil)", "()", "(", ")", ",", "S(", "S(1", "S(1))", "S((1))", "S(1)2", "S(1)(2)", "S(,)", "S(1,)", "S(,1)", "S(1,,2)",
		"Cons(1, Nil)", "Cons (1,Nil)", "Cons( 1,Nil)", "Cons(1,Nil )", "Cons(1,nil)", "Cons(01,Nil)", "Cons(1000001,Nil)", "Cons(1;Nil)",
		`S("`, `S(")`, `S(")"`, `S("a)`, `S("a"b)`, `S("\")`, `P("(","()`,
		"S(N" + strings.Repeat("a", impl.MaxName) + ")", "S(" + `"` + strings.Repeat("s", impl.MaxName+1) + `"` + ")",
		"S(S(S(0))", "S(S(S(0))))",
		longTerm(impl.MaxTerm + 1), longTerm(impl.MaxTerm + 2), nested(66, "100"), nested(67, "1"), nested(50000, "1"), strings.Repeat("S(", 50000), strings.Repeat("1", 50000),
	}
}

func terms() []string {
	return slices.Concat(numbers(), symbols(), constructors())
}

func TestTermKind(t *testing.T) {
	kinds := []struct {
		kind  int
		texts []string
	}{
		{impl.TkNum, numbers()}, {impl.TkSym, symbols()}, {impl.TkCon, constructors()}, {impl.TkNone, noTerms()},
	}
	for _, k := range kinds {
		for _, s := range k.texts {
			if got := impl.TermKind(s); got != k.kind {
				t.Errorf("TermKind(%.60q) = %d, want %d", s, got, k.kind)
			}
		}
	}
}

func TestTermKindOfEachByteInASymbol(t *testing.T) {
	for b := 0; b < 256; b++ {
		s := `"` + string([]byte{byte(b)}) + `"`
		want := impl.TkNone
		if b >= 32 && b <= 126 && b != '"' && b != '\\' {
			want = impl.TkSym
		}
		if got := impl.TermKind(s); got != want {
			t.Errorf("TermKind(%q) = %d, want %d", s, got, want)
		}
	}
}

func TestTermKindOfEachByteInAName(t *testing.T) {
	letters := "ABCDEFGHIJKLMNOPQRSTUVWXYZ"
	inner := letters + strings.ToLower(letters) + "0123456789_"
	for b := 0; b < 256; b++ {
		one := string([]byte{byte(b)})
		if got, want := impl.TermKind(one+"a") == impl.TkCon, strings.Contains(letters, one); got != want {
			t.Errorf("TermKind(%q) is a constructor: %t, want %t", one+"a", got, want)
		}
		if got, want := impl.TermKind("A"+one) == impl.TkCon, strings.Contains(inner, one); got != want {
			t.Errorf("TermKind(%q) is a constructor: %t, want %t", "A"+one, got, want)
		}
	}
}

func TestTermLimitsAreMetExactly(t *testing.T) {
	if n := len(longTerm(impl.MaxTerm)); n != impl.MaxTerm {
		t.Fatalf("longTerm has %d bytes", n)
	}
	if n := len(nested(66, "10")); n != impl.MaxTerm {
		t.Fatalf("nested has %d bytes", n)
	}
	if len(longTerm(impl.MaxTerm+1)) != impl.MaxTerm+1 || len(nested(66, "100")) != impl.MaxTerm+1 {
		t.Fatal("a text that is one too long is not")
	}
}

func TestTermParts(t *testing.T) {
	cases := []struct {
		s, name string
		args    []string
	}{
		{"7", "7", nil}, {"-7", "-7", nil}, {"-1000000", "-1000000", nil},
		{`""`, `""`, nil}, {`"A(1)"`, `"A(1)"`, nil}, {longestSymbol, longestSymbol, nil},
		{"Nil", "Nil", nil}, {longestName, longestName, nil},
		{"S(0)", "S", []string{"0"}},
		{"S(S(0))", "S", []string{"S(0)"}},
		{"Cons(1,Cons(2,Nil))", "Cons", []string{"1", "Cons(2,Nil)"}},
		{`Node("(,",S(1),2)`, "Node", []string{`"(,"`, "S(1)", "2"}},
		{`P(")",")")`, "P", []string{`")"`, `")"`}},
		{`P(Q(",)"),"(A",R("(",",")) `, "", nil},
		{`P(Q(",)"),"(A",R("(",","))`, "P", []string{`Q(",)")`, `"(A"`, `R("(",",")`}},
		{"P(1,1,1,1,1,1,1,1)", "P", []string{"1", "1", "1", "1", "1", "1", "1", "1"}},
	}
	for _, c := range cases {
		name, args := impl.TermParts(c.s)
		if name != c.name || !slices.Equal(args, c.args) {
			t.Errorf("TermParts(%q) = %q, %q, want %q, %q", c.s, name, args, c.name, c.args)
		}
	}
	for _, s := range noTerms() {
		if name, args := impl.TermParts(s); name != "" || len(args) != 0 {
			t.Errorf("TermParts(%.60q) = %q, %q, want nothing", s, name, args)
		}
	}
	_, args := impl.TermParts(longTerm(impl.MaxTerm))
	if len(args) != 99 {
		t.Errorf("the longest term has %d arguments, want 99", len(args))
	}
}

func TestTermMake(t *testing.T) {
	cases := []struct {
		name string
		args []string
		want string
	}{
		{"Nil", nil, "Nil"}, {"Nil", []string{}, "Nil"}, {longestName, nil, longestName},
		{"S", []string{"0"}, "S(0)"}, {"S", []string{`"),("`}, `S("),(")`},
		{"Cons", []string{"1", "Cons(2,Nil)"}, "Cons(1,Cons(2,Nil))"},
		{"P", []string{"1", "1", "1", "1", "1", "1", "1"}, "P(1,1,1,1,1,1,1)"},
		{"S", []string{longTerm(impl.MaxTerm - 3)}, "S(" + longTerm(impl.MaxTerm-3) + ")"},
		{"S", []string{"1000000", "-1000000"}, "S(1000000,-1000000)"},
	}
	for _, c := range cases {
		if got, ok := impl.TermMake(c.name, c.args); !ok || got != c.want {
			t.Errorf("TermMake(%q, %q) = %q, %t, want %q", c.name, c.args, got, ok, c.want)
		}
	}
}

func TestTermMakeRefuses(t *testing.T) {
	many := make([]string, 100000)
	for i := range many {
		many[i] = "1"
	}
	cases := []struct {
		name string
		args []string
	}{
		{"", nil}, {"cons", nil}, {"_A", nil}, {"1", nil}, {`"a"`, nil}, {"A ", nil}, {" A", nil}, {"A(1)", nil}, {"A(", []string{"1"}}, {"A-", nil},
		{longestName + "a", nil}, {longestName + "a", []string{"1"}}, {"", []string{"1"}},
		{"S", []string{longTerm(impl.MaxTerm - 2)}}, {"S", []string{longTerm(impl.MaxTerm)}}, {"S", many},
		{"S", []string{"1,2"}}, {"S", []string{`"`, `"`}}, {"S", []string{"T(1", "2)"}}, {"S", []string{"1", ""}},
	}
	for _, s := range noTerms() {
		cases = append(cases, struct {
			name string
			args []string
		}{"Cons", []string{"1", s}})
	}
	for _, c := range cases {
		if got, ok := impl.TermMake(c.name, c.args); ok || got != "" {
			t.Errorf("TermMake(%q, %.60q) = %q, %t, want nothing", c.name, c.args, got, ok)
		}
	}
}

func TestTermMakeLeavesItsArgument(t *testing.T) {
	room := []string{"1", "Nil", "spare", "room"}
	if s, ok := impl.TermMake("Cons", room[:2]); !ok || s != "Cons(1,Nil)" {
		t.Fatal(s, ok)
	}
	if !slices.Equal(room, []string{"1", "Nil", "spare", "room"}) {
		t.Errorf("the argument is now %q", room)
	}
}

func TestTermPartsAreNewEachTime(t *testing.T) {
	_, first := impl.TermParts("P(1,2)")
	first[0] = "changed"
	_ = append(first[:1], "changed")
	if _, again := impl.TermParts("P(1,2)"); !slices.Equal(again, []string{"1", "2"}) {
		t.Errorf("TermParts answers %q after its last answer was written into", again)
	}
}

func TestTermSize(t *testing.T) {
	cases := []struct {
		s    string
		want int
	}{
		{"0", 1}, {"-1000000", 1}, {`""`, 1}, {`"A(1,2)"`, 1}, {"Nil", 1}, {longestName, 1},
		{"S(0)", 2}, {"S(S(0))", 3}, {"Cons(1,Nil)", 3}, {"Cons(1,Cons(1,Nil))", 5}, {`Node("(,",S(1),2)`, 5},
		{"P(S(1),S(1),S(1))", 7}, {longTerm(impl.MaxTerm), 100}, {nested(66, "10"), 67},
	}
	for _, c := range cases {
		if got := impl.TermSize(c.s); got != c.want {
			t.Errorf("TermSize(%q) = %d, want %d", c.s, got, c.want)
		}
	}
	for _, s := range noTerms() {
		if got := impl.TermSize(s); got != 0 {
			t.Errorf("TermSize(%.60q) = %d, want 0", s, got)
		}
	}
}

// risingTerms are terms of which each one comes ahead of the next one. A symbol
// is compared as the text that it is, with its quotes: so `"a b"` and `"a!"` come
// ahead of `"a"`, as a blank and `!` are less than a quote.
func risingTerms() []string {
	return []string{
		"-1000000", "-10", "-9", "-1", "0", "1", "2", "9", "10", "11", "100", "999999", "1000000",
		`" "`, `"!"`, `""`, `"("`, `","`, `"1"`, `"10"`, `"9"`, `"A"`, `"B"`, `"a b"`, `"a!"`, `"a"`, `"aa"`, `"ab"`, `"b"`,
		"A", "A(-2)", "A(2)", "A(10)", `A("a")`, `A("b")`, "A(A)", "A(A(1))", "A(A(1,1))", "A(B)",
		"A(-5,100)", "A(1,1)", "A(1,2)", "A(1,10)", `A(1,"")`, "A(1,Nil)", "A(2,0)", `A("",0)`, "A(A(9),0)", "A(A(9),A)", "A(A(9,9),0)",
		"A(0,0,0)", "A0", "AB", "A_", "Aa", "Aa(1)", "Aaa", "Ab(0)", "B", "B(1)", "Z", "Za",
	}
}

func TestTermCmpOrdersAllTerms(t *testing.T) {
	list := risingTerms()
	for i, a := range list {
		for j, b := range list {
			want := 0
			if i < j {
				want = -1
			} else if i > j {
				want = 1
			}
			if got := impl.TermCmp(a, b); got != want {
				t.Errorf("TermCmp(%q, %q) = %d, want %d", a, b, got, want)
			}
		}
	}
}

func TestTermCmpOfWhatIsNoTerm(t *testing.T) {
	for _, s := range noTerms() {
		for _, other := range []string{"1", `"a"`, "Nil", "Cons(1,Nil)", s, "x"} {
			if got := impl.TermCmp(s, other); got != 2 {
				t.Errorf("TermCmp(%.60q, %.60q) = %d, want 2", s, other, got)
			}
			if got := impl.TermCmp(other, s); got != 2 {
				t.Errorf("TermCmp(%.60q, %.60q) = %d, want 2", other, s, got)
			}
		}
	}
}

func TestTermNumAndNumTerm(t *testing.T) {
	for _, n := range []int{-impl.MaxNum, -impl.MaxNum + 1, -100, -10, -9, -1, 0, 1, 9, 10, 100, impl.MaxNum - 1, impl.MaxNum} {
		s := impl.NumTerm(n)
		if s != impl.NumText(n) || impl.TermKind(s) != impl.TkNum {
			t.Errorf("NumTerm(%d) = %q", n, s)
		}
		if got, ok := impl.TermNum(s); !ok || got != n {
			t.Errorf("TermNum(%q) = %d, %t, want %d", s, got, ok, n)
		}
	}
	for _, n := range []int{-impl.MaxNum - 1, impl.MaxNum + 1, math.MinInt, math.MaxInt, 1 << 32, -1 << 32} {
		if s := impl.NumTerm(n); s != "" {
			t.Errorf("NumTerm(%d) = %q, want nothing", n, s)
		}
		if got, ok := impl.TermNum(impl.NumText(n)); ok || got != 0 {
			t.Errorf("TermNum(%q) = %d, %t, want nothing", impl.NumText(n), got, ok)
		}
	}
	for _, s := range slices.Concat(noTerms(), symbols(), constructors()) {
		if got, ok := impl.TermNum(s); ok || got != 0 {
			t.Errorf("TermNum(%.60q) = %d, %t, want nothing", s, got, ok)
		}
	}
}

func TestNumText(t *testing.T) {
	cases := []struct {
		n    int
		want string
	}{
		{0, "0"}, {7, "7"}, {-7, "-7"}, {10, "10"}, {-1000001, "-1000001"},
		{math.MaxInt, "9223372036854775807"}, {math.MinInt, "-9223372036854775808"},
	}
	for _, c := range cases {
		if got := impl.NumText(c.n); got != c.want {
			t.Errorf("NumText(%d) = %q, want %q", c.n, got, c.want)
		}
	}
}

func TestInside(t *testing.T) {
	cases := []struct {
		a, b string
		want bool
	}{
		{"1", "S(1)", true}, {"1", "S(S(1))", true}, {"S(1)", "S(S(1))", true}, {"Nil", "Cons(1,Cons(2,Nil))", true},
		{"2", "Cons(1,Cons(2,Nil))", true}, {"Cons(2,Nil)", "Cons(1,Cons(2,Nil))", true}, {`"(,"`, `Node("(,",S(1),2)`, true},
		{`"1"`, `P(Q("1"),1)`, true}, {"10", nested(66, "10"), true}, {nested(65, "10"), nested(66, "10"), true},
		{"1", "1", false}, {"S(1)", "S(1)", false}, {"Nil", "Nil", false}, {`"a"`, `"a"`, false},
		{"S(S(1))", "S(1)", false}, {"1", "S(11)", false}, {"1", "S(-1)", false}, {"1", `S("1")`, false}, {`"1"`, "S(1)", false},
		{"S", "S(1)", false}, {"Cons(1,Nil)", "Cons(1,Cons(2,Nil))", false}, {"A(1)", `P("A(1)")`, false}, {"2", "1", false},
		{"1", "S(1", false}, {"1", "S(1) ", false}, {"x", "S(x)", false}, {"", "S(1)", false}, {"", "", false}, {"1", "", false},
		{"1", nested(67, "1"), false}, {"01", "S(1)", false}, {"1,2", "S(1,2)", false},
	}
	for _, c := range cases {
		if got := impl.Inside(c.a, c.b); got != c.want {
			t.Errorf("Inside(%q, %q) = %t, want %t", c.a, c.b, got, c.want)
		}
	}
	for _, s := range noTerms() {
		if impl.Inside(s, "S(1)") || impl.Inside("1", s) || impl.Inside(s, s) || impl.Inside(s, "S("+s+")") {
			t.Errorf("Inside is true with %.60q, which is no term", s)
		}
	}
}
