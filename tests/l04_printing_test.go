package tests

import (
	"fmt"
	"strings"
	"testing"

	"loop.example/g00531/impl"
)

func wantProgText(t *testing.T, p impl.Prog, want string) {
	t.Helper()
	if got := impl.ProgText(p); got != want {
		t.Errorf("ProgText(%.400s) = %.400q, want %.400q", fmt.Sprint(p), got, want)
	}
}

// wantRuleText holds the text of the rule, alone and as the only line of a
// program, against the one that is wanted.
func wantRuleText(t *testing.T, r impl.Rule, want string) {
	t.Helper()
	if got := impl.RuleText(r); got != want {
		t.Errorf("RuleText(%.400s) = %.400q, want %.400q", fmt.Sprint(r), got, want)
	}
	line := want
	if want != "" {
		line += "\n"
	}
	wantProgText(t, rules(r), line)
}

func wantSound(t *testing.T, p impl.Prog, want bool) {
	t.Helper()
	if got := impl.ProgSound(p); got != want {
		t.Errorf("ProgSound(%.400s) = %t, want %t", fmt.Sprint(p), got, want)
	}
}

// wantSoundText wants a text that the program is read from as it was.
func wantSoundText(t *testing.T, p impl.Prog, want string) {
	t.Helper()
	wantProgText(t, p, want)
	wantSound(t, p, true)
	wantProg(t, want, p)
}

func TestTheEmptyProgramAndRule(t *testing.T) {
	wantSoundText(t, impl.Prog{}, "")
	wantSoundText(t, impl.Prog{Types: []impl.TypeDecl{}, Rels: []impl.RelDecl{}, Rules: []impl.Rule{}}, "")
	wantRuleText(t, impl.Rule{}, "")
	wantSound(t, rules(impl.Rule{}), false)
	wantRuleText(t, rule(nil, atom("")), "().")
	wantSound(t, rules(rule(nil, atom(""))), false)
}

// expCases are exps, the last of which has all the others in it, and its text.
func expCases() []struct {
	exps []impl.Exp
	want string
} {
	x, y, z, one := variable("x"), variable("y"), variable("z"), term("1")
	add, sub, mul := impl.ExAdd, impl.ExSub, impl.ExMul
	return []struct {
		exps []impl.Exp
		want string
	}{
		{[]impl.Exp{x}, "x"}, {[]impl.Exp{variable("v_1Z")}, "v_1Z"}, {[]impl.Exp{variable("type")}, "type"}, {[]impl.Exp{variable("number")}, "number"},
		{[]impl.Exp{anything()}, "_"},
		{[]impl.Exp{term("0")}, "0"}, {[]impl.Exp{term("-3")}, "-3"}, {[]impl.Exp{term("1000000")}, "1000000"}, {[]impl.Exp{term("-1000000")}, "-1000000"}, {[]impl.Exp{term(`""`)}, `""`}, {[]impl.Exp{term(`"a, (b) // c"`)}, `"a, (b) // c"`},
		{[]impl.Exp{construct("Nil")}, "Nil"}, {[]impl.Exp{one, construct("S", 0)}, "S(1)"}, {[]impl.Exp{x, anything(), construct("P", 0, 1)}, "P(x, _)"},
		{[]impl.Exp{one, one, one, one, one, one, construct("P", 0, 1, 2, 3, 4, 5)}, "P(1, 1, 1, 1, 1, 1)"},
		{[]impl.Exp{x, construct("S", 0), construct("S", 1), construct("S", 2)}, "S(S(S(x)))"},
		{[]impl.Exp{one, construct("Nil"), construct("Cons", 0, 1), construct("Nil"), construct("Cons", 2, 3)}, "Cons(Cons(1, Nil), Nil)"},
		{[]impl.Exp{x, y, reckon(add, 0, 1)}, "x + y"}, {[]impl.Exp{x, y, reckon(sub, 0, 1)}, "x - y"}, {[]impl.Exp{x, y, reckon(mul, 0, 1)}, "x * y"},
		{[]impl.Exp{x, x, reckon(add, 0, 1)}, "x + x"},
		{[]impl.Exp{term("-1"), term("-2"), reckon(sub, 0, 1)}, "-1 - -2"}, {[]impl.Exp{x, term("-2"), reckon(mul, 0, 1)}, "x * -2"}, {[]impl.Exp{x, term("-2"), reckon(add, 0, 1)}, "x + -2"},
		{[]impl.Exp{anything(), construct("Nil"), reckon(add, 0, 1)}, "_ + Nil"}, {[]impl.Exp{term(`"a"`), one, construct("S", 1), reckon(mul, 0, 2)}, `"a" * S(1)`},
		{[]impl.Exp{x, y, reckon(add, 0, 1), z, construct("P", 2, 3)}, "P(x + y, z)"},
		{[]impl.Exp{x, y, z, reckon(mul, 1, 2), construct("P", 0, 3)}, "P(x, y * z)"},
		{[]impl.Exp{x, y, reckon(sub, 0, 1), construct("S", 2), z, reckon(mul, 3, 4)}, "S(x - y) * z"},
		{[]impl.Exp{x, y, z, reckon(sub, 1, 2), construct("S", 3), reckon(mul, 0, 4)}, "x * S(y - z)"},
		{[]impl.Exp{x, y, reckon(add, 0, 1), z, one, reckon(sub, 3, 4), reckon(mul, 2, 5)}, "(x + y) * (z - 1)"},
		{[]impl.Exp{x, y, reckon(mul, 0, 1), z, one, reckon(mul, 3, 4), reckon(add, 2, 5)}, "(x * y) + (z * 1)"},
		{[]impl.Exp{x, y, reckon(add, 0, 1), z, reckon(add, 2, 3), one, reckon(add, 4, 5)}, "((x + y) + z) + 1"},
		{[]impl.Exp{x, y, z, one, reckon(sub, 2, 3), reckon(sub, 1, 4), reckon(sub, 0, 5)}, "x - (y - (z - 1))"},
	}
}

func TestTextOfEachExp(t *testing.T) {
	for _, c := range expCases() {
		last := len(c.exps) - 1
		head := rule(c.exps, atom("p", last))
		wantRuleText(t, head, "p("+c.want+").")
		wantSoundText(t, rules(head), "p("+c.want+").\n")
		behind := append(append([]impl.Exp{}, c.exps...), variable("z"))
		wantSoundText(t, rules(rule(behind, atom("p"), compare("=", last, last+1))), "p() :- "+c.want+" = z.\n")
		wantSoundText(t, rules(rule(behind, atom("p"), not("q", last, last+1))), "p() :- !q("+c.want+", z).\n")
		wantSoundText(t, rules(rule(behind, atom("p"), atom("q", last), atom("q", last+1))), "p() :- q("+c.want+"), q(z).\n")
	}
}

// TestBracketsStandAroundEachSumWithinAnother goes through all kinds of one
// within the other, on either side.
func TestBracketsStandAroundEachSumWithinAnother(t *testing.T) {
	kinds := []int{impl.ExAdd, impl.ExSub, impl.ExMul}
	signs := []string{" + ", " - ", " * "}
	x, y, z := variable("x"), variable("y"), variable("z")
	for i, outer := range kinds {
		for j, inner := range kinds {
			left := []impl.Exp{x, y, reckon(inner, 0, 1), z, reckon(outer, 2, 3)}
			wantSoundText(t, rules(rule(left, atom("p", 4))), "p((x"+signs[j]+"y)"+signs[i]+"z).\n")
			right := []impl.Exp{x, y, z, reckon(inner, 1, 2), reckon(outer, 0, 3)}
			wantSoundText(t, rules(rule(right, atom("p", 4))), "p(x"+signs[i]+"(y"+signs[j]+"z)).\n")
		}
	}
}

func TestTextOfEachLiteral(t *testing.T) {
	x, one := variable("x"), term("1")
	cases := []struct {
		rule impl.Rule
		want string
	}{
		{rule(nil, atom("p")), "p()."},
		{rule([]impl.Exp{one}, atom("p", 0)), "p(1)."},
		{rule([]impl.Exp{x, one, anything()}, atom("p", 0, 1, 2)), "p(x, 1, _)."},
		{rule(nil, atom("p"), atom("q")), "p() :- q()."},
		{rule(nil, atom("p"), not("q")), "p() :- !q()."},
		{rule(nil, atom("input"), atom("type"), not("rel")), "input() :- type(), !rel()."},
		{rule([]impl.Exp{x, x, one}, atom("p", 0), not("q", 1, 2)), "p(x) :- !q(x, 1)."},
		{rule([]impl.Exp{x, one}, atom("p"), compare("=", 0, 1)), "p() :- x = 1."},
		{rule([]impl.Exp{x, one}, atom("p"), compare("!=", 0, 1)), "p() :- x != 1."},
		{rule([]impl.Exp{x, one}, atom("p"), compare("<", 0, 1)), "p() :- x < 1."},
		{rule([]impl.Exp{x, one}, atom("p"), compare("<=", 0, 1)), "p() :- x <= 1."},
		{rule([]impl.Exp{x, one, reckon(impl.ExSub, 0, 1), x, one, reckon(impl.ExMul, 3, 4)}, atom("p"), compare("<", 2, 5)), "p() :- x - 1 < x * 1."},
		{rule([]impl.Exp{x, one, reckon(impl.ExAdd, 0, 1), x, reckon(impl.ExMul, 2, 3), term("-3")}, atom("p"), compare("<=", 4, 5)), "p() :- (x + 1) * x <= -3."},
		{rule([]impl.Exp{x, x, x, x, one, one}, atom("p", 0), atom("q", 1), not("q", 2), compare("!=", 3, 4), atom("r", 5)), "p(x) :- q(x), !q(x), x != 1, r(1)."},
	}
	for _, c := range cases {
		wantRuleText(t, c.rule, c.want)
		wantSoundText(t, rules(c.rule), c.want+"\n")
	}
}

func TestTextOfEachDeclaration(t *testing.T) {
	types := []struct {
		decl impl.TypeDecl
		want string
	}{
		{impl.TypeDecl{Name: "A", Cons: []impl.Con{{Name: "B"}}}, "type A = B.\n"},
		{impl.TypeDecl{Name: "A", Cons: []impl.Con{{Name: "B", Types: []string{"number"}}}}, "type A = B(number).\n"},
		{impl.TypeDecl{Name: "A", Cons: []impl.Con{{Name: "B"}, {Name: "C"}, {Name: "D"}}}, "type A = B | C | D.\n"},
		{impl.TypeDecl{Name: "A", Cons: []impl.Con{{Name: "A"}, {Name: "A", Types: []string{"A", "number", "symbol"}}, {Name: "C"}}}, "type A = A | A(A, number, symbol) | C.\n"},
		{impl.TypeDecl{Name: "A", Cons: []impl.Con{{Name: "B", Types: []string{}}}}, "type A = B.\n"},
	}
	for _, c := range types {
		wantSoundText(t, impl.Prog{Types: []impl.TypeDecl{c.decl}}, c.want)
	}
	modes := map[int]string{impl.MdPlain: "", impl.MdInput: " input", impl.MdOutput: " output", impl.MdInline: " inline"}
	for mode, text := range modes {
		wantSoundText(t, impl.Prog{Rels: []impl.RelDecl{{Name: "p", Mode: mode}}}, "rel p()"+text+".\n")
		wantSoundText(t, impl.Prog{Rels: []impl.RelDecl{{Name: "p", Types: []string{"T"}, Mode: mode}}}, "rel p(T)"+text+".\n")
		wantSoundText(t, impl.Prog{Rels: []impl.RelDecl{{Name: "type", Types: []string{"number", "T", "symbol"}, Mode: mode}}}, "rel type(number, T, symbol)"+text+".\n")
	}
}

func TestTextOfAProgram(t *testing.T) {
	p := impl.Prog{
		Types: []impl.TypeDecl{
			{Name: "List", Cons: []impl.Con{{Name: "Nil"}, {Name: "Cons", Types: []string{"number", "List"}}}},
			{Name: "Flag", Cons: []impl.Con{{Name: "On"}}},
		},
		Rels: []impl.RelDecl{
			{Name: "total", Types: []string{"List", "number"}, Mode: impl.MdOutput},
			{Name: "given", Types: []string{"List"}, Mode: impl.MdInput},
			{Name: "wrong", Types: []string{"symbol", "number"}, Mode: impl.MdInline},
			{Name: "none", Mode: impl.MdPlain},
		},
		Rules: []impl.Rule{
			rule([]impl.Exp{construct("Nil"), term("0")}, atom("total", 0, 1)),
			rule([]impl.Exp{
				variable("x"), variable("l"), construct("Cons", 0, 1), variable("x"), variable("n"), reckon(impl.ExAdd, 3, 4),
				variable("x"), variable("l"), construct("Cons", 6, 7),
				variable("l"), variable("n"),
				term(`"a b"`), anything(),
				variable("l"), construct("Nil"),
				variable("n"), term("2"), reckon(impl.ExMul, 15, 16), term("1"), reckon(impl.ExSub, 17, 18), term("-3"),
			}, atom("total", 2, 5), atom("given", 8), atom("total", 9, 10), not("wrong", 11, 12), compare("!=", 13, 14), compare("<=", 19, 20)),
			rule(nil, atom("none")),
			rule(nil, atom("none")),
		},
	}
	want := []string{
		"type List = Nil | Cons(number, List).",
		"type Flag = On.",
		"rel total(List, number) output.",
		"rel given(List) input.",
		"rel wrong(symbol, number) inline.",
		"rel none().",
		"total(Nil, 0).",
		`total(Cons(x, l), x + n) :- given(Cons(x, l)), total(l, n), !wrong("a b", _), l != Nil, (n * 2) - 1 <= -3.`,
		"none().",
		"none().",
		"",
	}
	wantSoundText(t, p, strings.Join(want, "\n"))
	for i, r := range p.Rules {
		if got := impl.RuleText(r); got != want[6+i] {
			t.Errorf("RuleText of rule %d = %q, want %q", i, got, want[6+i])
		}
	}
}

// TestASourceIsPrintedInOneForm reads sources that are written in other ways.
func TestASourceIsPrintedInOneForm(t *testing.T) {
	cases := []struct {
		source string
		want   string
	}{
		{"", ""}, {" // nothing\n", ""},
		{"p(x+1,C(x,_)):-q(x),!r(),(x-1)*2<y-(-3),y=x.rel q(number)input.type T=A|B(T,symbol).", "type T = A | B(T, symbol).\nrel q(number) input.\np(x + 1, C(x, _)) :- q(x), !r(), (x - 1) * 2 < y - -3, y = x.\n"},
		{"p(1+2+3).", "p((1 + 2) + 3).\n"}, {"p(1+(2+3)).", "p(1 + (2 + 3)).\n"}, {"p(1-2-3).", "p((1 - 2) - 3).\n"}, {"p(1*2*3).", "p((1 * 2) * 3).\n"},
		{"p(1+2*3).", "p(1 + (2 * 3)).\n"}, {"p(1*2+3).", "p((1 * 2) + 3).\n"}, {"p((1+2)*3).", "p((1 + 2) * 3).\n"}, {"p(1*2-3*4+5).", "p(((1 * 2) - (3 * 4)) + 5).\n"},
		{"p(((1))).", "p(1).\n"}, {"p(((1)+(2))).", "p(1 + 2).\n"}, {"p((X((1)))).", "p(X(1)).\n"}, {"p(- 1).", "p(-1).\n"}, {"p(1--1).", "p(1 - -1).\n"},
		{"p():-(x)=(1).", "p() :- x = 1.\n"}, {"p():-!q(1,x).", "p() :- !q(1, x).\n"}, {"p().q().", "p().\nq().\n"},
		{"q(). rel q(). type T = A. p(). rel p() . type U = B.", "type T = A.\ntype U = B.\nrel q().\nrel p().\nq().\np().\n"},
	}
	for _, c := range cases {
		p, _, code := impl.Parse(c.source)
		if code != impl.SyOK {
			t.Fatalf("Parse(%q) has the code %d", c.source, code)
		}
		wantSoundText(t, p, c.want)
	}
}

// TestTextsAndNamesAreTakenAsTheyStand has texts that no source could give.
func TestTextsAndNamesAreTakenAsTheyStand(t *testing.T) {
	odd := []string{"", " ", ")", "a b", ", ", "Big", "small", "1", "01", "-", "//", "\n", "\x00\xff", "é", `"`, `"a`, "Cons(1,Nil)", "x + y", strings.Repeat("n", 700)}
	for _, s := range odd {
		wantRuleText(t, rule([]impl.Exp{variable(s)}, atom("p", 0)), "p("+s+").")
		wantRuleText(t, rule([]impl.Exp{term(s)}, atom("p", 0)), "p("+s+").")
		wantRuleText(t, rule([]impl.Exp{construct(s)}, atom("p", 0)), "p("+s+").")
		wantRuleText(t, rule([]impl.Exp{term("1"), construct(s, 0)}, atom("p", 1)), "p("+s+"(1)).")
		wantRuleText(t, rule([]impl.Exp{variable(s), term(s), reckon(impl.ExAdd, 0, 1)}, atom("p", 2)), "p("+s+" + "+s+").")
		wantRuleText(t, rule(nil, atom(s)), s+"().")
		wantRuleText(t, rule(nil, atom("p"), atom(s), not(s)), "p() :- "+s+"(), !"+s+"().")
		wantRuleText(t, rule([]impl.Exp{term("1"), term("2")}, atom("p"), compare(s, 0, 1)), "p() :- 1 "+s+" 2.")
		wantProgText(t, impl.Prog{Types: []impl.TypeDecl{{Name: s, Cons: []impl.Con{{Name: s, Types: []string{s, s}}}}}}, "type "+s+" = "+s+"("+s+", "+s+").\n")
		wantProgText(t, impl.Prog{Rels: []impl.RelDecl{{Name: s, Types: []string{s}}}}, "rel "+s+"("+s+").\n")
	}
	wantProgText(t, impl.Prog{Types: []impl.TypeDecl{{Name: "T"}}}, "type T = .\n")
	wantRuleText(t, rule([]impl.Exp{{Kind: impl.ExAny, Text: "x"}}, atom("p", 0)), "p(_).")
	wantRuleText(t, rule([]impl.Exp{term("1"), term("2"), {Kind: impl.ExMul, Text: "+", Kids: []int{0, 1}}}, atom("p", 2)), "p(1 * 2).")
}
