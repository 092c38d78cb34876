package tests

import (
	"strings"
	"testing"

	"loop.example/g00531/impl"
)

func wantAnswer(t *testing.T, r impl.Rule, n int, names, vals []string, want string, code int) {
	t.Helper()
	if got, gotCode := impl.ExpValue(r, n, names, vals); got != want || gotCode != code {
		t.Errorf("ExpValue(%.400s, %d, %.200q, %.400q) = %q, %d, want %q, %d", impl.RuleText(r), n, names, vals, got, gotCode, want, code)
	}
}

func wantValue(t *testing.T, r impl.Rule, n int, names string, vals []string, want string) {
	t.Helper()
	wantAnswer(t, r, n, words(names), vals, want, 0)
}

func wantNoValue(t *testing.T, r impl.Rule, n int, names string, vals []string, code int) {
	t.Helper()
	wantAnswer(t, r, n, words(names), vals, "", code)
}

// wantExpAnswer asks for an exp as an Arg of each kind of literal, and alone.
func wantExpAnswer(t *testing.T, s string, names, vals []string, want string, code int) {
	t.Helper()
	r := ruleOf(t, "p("+s+").")
	wantAnswer(t, r, len(r.Exps)-1, names, vals, want, code)
	r = ruleOf(t, "p(z + _, "+s+", _) :- q("+s+", 1 + w).")
	wantAnswer(t, r, r.Head.Args[1], names, vals, want, code)
	wantAnswer(t, r, r.Body[0].Args[0], names, vals, want, code)
	r = ruleOf(t, "p() :- !q(_, "+s+"), "+s+" = "+s+".")
	wantAnswer(t, r, r.Body[0].Args[1], names, vals, want, code)
	wantAnswer(t, r, r.Body[1].Args[0], names, vals, want, code)
	wantAnswer(t, r, r.Body[1].Args[1], names, vals, want, code)
}

// inText is how a TkCon is written in a program: it is an exp of its parts.
func inText(s string) string { return strings.ReplaceAll(s, ",", ", ") }

func TestValuesOfEachExp(t *testing.T) {
	names := words("x y s l")
	vals := []string{"3", "-7", `"a b"`, "Cons(1,Nil)"}
	for s, want := range map[string]string{
		"x": "3", "y": "-7", "s": `"a b"`, "l": "Cons(1,Nil)", "1": "1", "-1": "-1", "0": "0", "1000000": "1000000", "-1000000": "-1000000", `"x"`: `"x"`, `""`: `""`,
		"Nil": "Nil", "S(x)": "S(3)", "S(s)": `S("a b")`, "P(l, y)": "P(Cons(1,Nil),-7)", "P(x, x, S(y), Q(l, 1), Nil)": "P(3,3,S(-7),Q(Cons(1,Nil),1),Nil)", `S("a, b")`: `S("a, b")`,
		"x + y": "-4", "x - y": "10", "y - x": "-10", "x * y": "-21", "y * y": "49", "1 + 2": "3", "x - x": "0", "0 * y": "0", "-1 * 0": "0", "-3 + x": "0",
		"x + y * 2": "-11", "(x + y) * 2": "-8", "x - y - 1": "9", "x - (y - 1)": "11", "2 * x + 3 * y": "-15", "(1 - x) * (1 - y)": "-16", "x * x * x": "27",
		"S(x + y)": "S(-4)", "P(x - 1, y * 2, x)": "P(2,-14,3)", "Cons(x + 1, Cons(x - 1, l))": "Cons(4,Cons(2,Cons(1,Nil)))",
	} {
		wantExpAnswer(t, s, names, vals, want, 0)
	}
	for _, s := range []string{"Nil", "S(1)", "P(-1,Q(Nil,R(0)))", `S("")`} {
		wantExpAnswer(t, inText(s), nil, nil, s, 0)
	}
}

func TestValuesOfNames(t *testing.T) {
	for _, c := range []struct {
		names, vals string
		want        string // empty where x has no value
	}{
		{"x", "1", "1"}, {"y x", "1 2", "2"}, {"x y", "1 2", "1"}, {"a b c d x", "1 2 3 4 5", "5"},
		{"", "", ""}, {"y", "1", ""}, {"X", "1", ""}, {"xx", "1", ""}, {"y z", "1 2", ""},
		// Two alike names.
		{"x x", "1 2", "1"}, {"x x x", "3 2 1", "3"}, {"y x x", "1 2 3", "2"}, {"y y x", "1 2 3", "3"}, {"x y x", "1 2 3", "1"},
		// More names than values.
		{"x", "", ""}, {"y x", "1", ""}, {"x y", "1", "1"}, {"x x", "1", "1"}, {"y x x", "1", ""}, {"y y x", "1 2", ""}, {"x y z", "1", "1"},
		// More values than names.
		{"", "1", ""}, {"x", "1 2", "1"}, {"y", "1 2", ""}, {"y x", "1 2 3", "2"}, {"", "1 2 3", ""},
	} {
		names, vals := words(c.names), words(c.vals)
		if c.want == "" {
			wantExpAnswer(t, "x", names, vals, "", 1)
			wantExpAnswer(t, "S(x)", names, vals, "", 1)
			wantExpAnswer(t, "x + 1", names, vals, "", 1)
			wantExpAnswer(t, "P(1, 2 * x, Nil)", names, vals, "", 1)
			continue
		}
		wantExpAnswer(t, "x", names, vals, c.want, 0)
		wantExpAnswer(t, "S(x)", names, vals, "S("+c.want+")", 0)
		wantExpAnswer(t, "x * 1", names, vals, c.want, 0)
	}
	empty := xAnd([]impl.Exp{variable("")}, []int{1})
	wantAnswer(t, empty, 1, []string{""}, []string{"5"}, "5", 0)
	wantAnswer(t, empty, 1, nil, []string{"5"}, "", 1)
	wantAnswer(t, empty, 0, []string{""}, []string{"5"}, "", 1)
}

// TestValuesOfOtherNamesDoNotMatter: what is not asked for may lack, and be no
// term, and so may what stands beside the exp.
func TestValuesOfOtherNamesDoNotMatter(t *testing.T) {
	wantExpAnswer(t, "x", words("y x z"), []string{"no term", "1", ""}, "1", 0)
	wantExpAnswer(t, "x + 1", words("y x x"), []string{"", "1", "no number"}, "2", 0)
	r := ruleOf(t, "p(P(x, _), y + S(1), P(1000000 * 2)) :- q(z, x + 1).")
	wantValue(t, r, r.Body[0].Args[1], "x", []string{"1"}, "2")
	wantValue(t, r, 0, "x", []string{"1"}, "1")
	wantNoValue(t, r, r.Head.Args[0], "x y z", []string{"1", "2", "3"}, 1)
	wantNoValue(t, r, r.Head.Args[1], "x y z", []string{"1", "2", "3"}, 1)
	wantNoValue(t, r, r.Head.Args[2], "x y z", []string{"1", "2", "3"}, 2)
}

func TestValuesThatAreNoTerm(t *testing.T) {
	for _, bad := range noTerms() {
		names, vals := words("y x"), []string{"1", bad}
		wantExpAnswer(t, "x", names, vals, "", 2)
		wantExpAnswer(t, "S(x)", names, vals, "", 2)
		wantExpAnswer(t, "P(1, x)", names, vals, "", 2)
		wantExpAnswer(t, "P(x, y)", names, vals, "", 2)
		wantExpAnswer(t, "S(S(x))", names, vals, "", 2)
		for _, sum := range []string{"x + 1", "1 + x", "x - y", "y - x", "x * 0", "0 * x", "S(x + 1)", "1 + (2 * x)"} {
			wantExpAnswer(t, sum, names, vals, "", 1)
		}
		if len(bad) > impl.MaxSource/4 {
			continue // a rule has no room for it
		}
		r := xAnd([]impl.Exp{term(bad), term(bad), construct("S", 2), term("1"), term(bad), reckon(impl.ExSub, 4, 5)}, []int{1, 3, 6})
		wantNoValue(t, r, 1, "", nil, 2)
		wantNoValue(t, r, 2, "", nil, 2)
		wantNoValue(t, r, 3, "", nil, 2)
		wantNoValue(t, r, 6, "", nil, 1)
	}
}

// TestValuesAreAskedToBeTermsAtNAlone: the names here stand within another exp,
// which fails for another cause, behind them; it is that one that counts.
func TestValuesAreAskedToBeTermsAtNAlone(t *testing.T) {
	for _, bad := range noTerms() {
		names, vals := words("x"), []string{bad}
		wantExpAnswer(t, "P(x, _)", names, vals, "", 1)
		wantExpAnswer(t, "P(x, y)", names, vals, "", 1)
		wantExpAnswer(t, "x + y", names, vals, "", 1)
		wantExpAnswer(t, "P(x, Nil + 1)", names, vals, "", 1)
		wantExpAnswer(t, "P(S(x), _)", names, vals, "", 2)
	}
}

// TestTermsOfExps: the Text of an ExTerm is its value, also where a source could
// not have it there.
func TestTermsOfExps(t *testing.T) {
	for _, s := range []string{"1", "-5", `"a"`, "Nil", "Cons(1,Nil)", "P(P(1,2),\"x\")"} {
		r := xAnd([]impl.Exp{term(s), term(s), construct("S", 2)}, []int{1, 3})
		wantValue(t, r, 1, "", nil, s)
		wantValue(t, r, 3, "", nil, "S("+s+")")
	}
}

func TestValuesThatAreNoNumber(t *testing.T) {
	for _, bad := range []string{`"a"`, `"1"`, `""`, "Nil", "S(1)", "Cons(1,Nil)"} {
		names, vals := words("x y"), []string{bad, "1"}
		wantExpAnswer(t, "x", names, vals, bad, 0)
		for _, s := range []string{"x + 1", "1 + x", "x - x", "x * 0", "0 * x", "y - x", "x - y", "S(x + y)", "(x + 1) * 2", "2 * (y - x)"} {
			wantExpAnswer(t, s, names, vals, "", 1)
		}
		wantExpAnswer(t, inText(bad)+" + 1", nil, nil, "", 1)
		wantExpAnswer(t, "1 - "+inText(bad), nil, nil, "", 1)
	}
}

func TestSumsAtTheirLimits(t *testing.T) {
	names, vals := words("a b one"), []string{"1000000", "-1000000", "1"}
	for s, want := range map[string]string{
		"a + 0": "1000000", "a - 0": "1000000", "a * 1": "1000000", "b + 0": "-1000000", "b * 1": "-1000000", "a * -1": "-1000000", "0 - a": "-1000000", "0 - b": "1000000", "b * -1": "1000000",
		"999999 + one": "1000000", "-999999 - one": "-1000000", "1000 * 1000": "1000000", "-1000 * 1000": "-1000000", "-1000 * -1000": "1000000", "a + b": "0", "500000 - -500000": "1000000", "a - one + one": "1000000",
	} {
		wantExpAnswer(t, s, names, vals, want, 0)
	}
	for _, s := range []string{
		"a + one", "one + a", "a - -1", "b - one", "b + -1", "-1 - a", "a + a", "b + b", "a - b", "b - a", "a * 2", "2 * a", "b * 2", "a * -2", "a * a", "a * b", "b * b", "1001 * 1000", "-1001 * 1000", "999999 + 2",
		// A sum that comes back is over all the same.
		"a + one - one", "(a + one) * 0", "0 * (b - one)", "b - one + one", "a * a - a * a", "S(a + one)", "P(1, S(b - 1))",
	} {
		wantExpAnswer(t, s, names, vals, "", 2)
	}
}

func TestConstructorsThatBecomeTooLong(t *testing.T) {
	for _, n := range []int{impl.MaxTerm - 1, impl.MaxTerm, impl.MaxTerm + 1} {
		long := longTerm(n - len("P(,7,Nil)"))
		want, code := "P("+long+",7,Nil)", 0
		if len(want) != n {
			t.Fatalf("the term has %d bytes, not %d", len(want), n)
		}
		if n > impl.MaxTerm {
			want, code = "", 2
		}
		wantExpAnswer(t, "P(x, 3 + 4, Nil)", words("x"), []string{long}, want, code)
	}
	longest := "B" + strings.Repeat("b", impl.MaxName-1)
	wantExpAnswer(t, longest+"(x)", words("x"), []string{"1"}, longest+"(1)", 0)
	full := longTerm(impl.MaxTerm)
	wantExpAnswer(t, "x", words("x"), []string{full}, full, 0)
	wantExpAnswer(t, "S(x)", words("x"), []string{full}, "", 2)
	wantExpAnswer(t, "P(S(x), _)", words("x"), []string{full}, "", 2)
	for _, name := range []string{"", "s", "_", "S(", "S T", longest + "b", "1", "é"} {
		r := xAnd([]impl.Exp{construct(name), term("1"), construct(name, 2)}, []int{1, 3})
		wantNoValue(t, r, 1, "", nil, 2)
		wantNoValue(t, r, 3, "", nil, 2)
	}
	wide := xAnd(append(times(50, term("1")), construct("W", places(1, 51)...)), []int{51})
	wantValue(t, wide, 51, "", nil, "W("+strings.Repeat("1,", 49)+"1)")
}

func TestAnyHasNoValue(t *testing.T) {
	names, vals := words("_ x"), []string{"1", "2"}
	for _, s := range []string{"_", "S(_)", "P(x, _)", "P(_, x)", "P(1, S(S(_)))", "_ + 1", "1 - _", "_ * 0", "S(x + _)", "_ + _"} {
		wantExpAnswer(t, s, names, vals, "", 1)
	}
	r := xAnd([]impl.Exp{{Kind: impl.ExAny, Text: "x"}, {Kind: impl.ExAny, Text: "1"}}, []int{1, 2})
	wantNoValue(t, r, 1, "x", []string{"1"}, 1)
	wantNoValue(t, r, 2, "x", []string{"1"}, 1)
}

// TestTheFirstFaultEndsIt has two faults of an exp, or one that is there only if
// the other one were not.
func TestTheFirstFaultEndsIt(t *testing.T) {
	names, vals := words("x a s bad"), []string{"1", "1000000", `"a"`, "no term"}
	ones := []string{"_", "none", "S(_)", "s + 1", "1 * Nil", "P(x, none)", "x - bad", "2 - (s + 1)"}
	twos := []string{"S(bad)", "a + 1", "P(x, a * a)", "S(S(bad))", "0 * (a + x)", "P(bad, x)"}
	for _, one := range ones {
		wantExpAnswer(t, one, names, vals, "", 1)
		for _, two := range twos {
			wantExpAnswer(t, "P("+one+", "+two+")", names, vals, "", 1)
			wantExpAnswer(t, "P("+two+", "+one+")", names, vals, "", 2)
			wantExpAnswer(t, "P(x, "+two+", 1, "+one+")", names, vals, "", 2)
			wantExpAnswer(t, "("+one+") + ("+two+")", names, vals, "", 1)
			wantExpAnswer(t, "("+two+") - ("+one+")", names, vals, "", 2)
			wantExpAnswer(t, "Q(P(1, "+two+"), Q("+one+", 1), 1)", names, vals, "", 2)
		}
	}
	// A constructor is made when all that is in it has values.
	wantExpAnswer(t, "P(bad, _)", names, vals, "", 1)
	wantExpAnswer(t, "P(bad, P(1, none))", names, vals, "", 1)
	wantExpAnswer(t, "P(s + bad, S(bad))", names, vals, "", 1)
}

// TestTheFirstFaultInTheOrderOfTheExps has Kids that do not stand in the order of
// the text.
func TestTheFirstFaultInTheOrderOfTheExps(t *testing.T) {
	big, one := term("1000000"), term("1")
	for _, lacks := range []impl.Exp{anything(), variable("none")} {
		sumFirst := []impl.Exp{variable("x"), big, one, reckon(impl.ExAdd, 1, 2), lacks}
		lackFirst := []impl.Exp{variable("x"), lacks, big, one, reckon(impl.ExAdd, 2, 3)}
		for _, c := range []struct {
			exps []impl.Exp
			last impl.Exp
			code int
		}{
			{sumFirst, construct("P", 3, 4), 2}, {sumFirst, construct("P", 4, 3), 2}, {sumFirst, reckon(impl.ExSub, 4, 3), 2},
			{lackFirst, construct("P", 1, 4), 1}, {lackFirst, construct("P", 4, 1), 1}, {lackFirst, reckon(impl.ExMul, 4, 1), 1},
		} {
			r := rule(append(append([]impl.Exp{}, c.exps...), c.last), atom("p", 5), atom("q", 0))
			wantNoValue(t, r, 5, "x", []string{"1"}, c.code)
		}
	}
	swapped := rule([]impl.Exp{term("2"), term("5"), reckon(impl.ExSub, 1, 0), variable("x"), construct("P", 3, 2)}, atom("p", 4))
	wantValue(t, swapped, 2, "", nil, "3")
	wantValue(t, swapped, 4, "x", []string{"Nil"}, "P(Nil,3)")
}

func TestValuesOfPlacesThatAreNone(t *testing.T) {
	r := ruleOf(t, "p(x) :- q(S(x)).")
	wantValue(t, r, 0, "x", []string{"1"}, "1")
	wantValue(t, r, 2, "x", []string{"1"}, "S(1)")
	for _, n := range noPlaces(3) {
		wantNoValue(t, r, n, "x", []string{"1"}, 1)
	}
	for _, n := range append(noPlaces(0), 0) {
		wantNoValue(t, ruleOf(t, "p()."), n, "x", []string{"1"}, 1)
	}
}

// TestRulesNeedNotBeTypedToHaveValues: the form of chapter 4 is enough.
func TestRulesNeedNotBeTypedToHaveValues(t *testing.T) {
	r := rule([]impl.Exp{variable("X Y"), term("1"), reckon(impl.ExAdd, 0, 1), construct("P", 2)}, atom("no name", 3), compare("?", 4, 5))
	r.Exps = append(r.Exps, variable("X Y"), anything())
	wantAnswer(t, r, 3, []string{"X Y"}, []string{"6"}, "P(7)", 0)
	wantAnswer(t, r, 4, []string{"X Y"}, []string{"6"}, "6", 0)
	wantAnswer(t, r, 5, []string{"X Y"}, []string{"6"}, "", 1)
}

func TestVastNamesAndValues(t *testing.T) {
	r := ruleOf(t, "p(x + 1).")
	names, vals := times(1000000, "y"), times(1000001, "8")
	wantAnswer(t, r, 2, names, vals, "", 1)
	wantAnswer(t, r, 2, append(names, "x"), vals, "9", 0)
	vast := strings.Repeat("S(", 1<<22)
	wantAnswer(t, r, 0, []string{"x"}, []string{vast}, "", 2)
	wantAnswer(t, r, 2, []string{"x"}, []string{vast}, "", 1)
}
