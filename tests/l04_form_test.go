package tests

import (
	"math"
	"strings"
	"testing"

	"loop.example/g00531/impl"
)

// wantNoRuleText wants no text of the rule, alone, first, last or between others,
// and a program with it not sound.
func wantNoRuleText(t *testing.T, what string, r impl.Rule) {
	t.Helper()
	if got := impl.RuleText(r); got != "" {
		t.Errorf("%s: RuleText = %.400q", what, got)
	}
	good := rule([]impl.Exp{term("1")}, atom("p", 0))
	for _, p := range []impl.Prog{rules(r), rules(r, good), rules(good, r), rules(good, r, good)} {
		p.Types = []impl.TypeDecl{{Name: "T", Cons: []impl.Con{{Name: "A"}}}}
		if got := impl.ProgText(p); got != "" || impl.ProgSound(p) {
			t.Errorf("%s: ProgText = %.400q", what, got)
		}
	}
}

// noPlaces are no places of a list with n items.
func noPlaces(n int) []int {
	return []int{-1, -2, n, n + 1, impl.MaxExps, math.MinInt, math.MaxInt}
}

func TestAKidIsAPlaceAheadOfItsExp(t *testing.T) {
	one := term("1")
	for at, good := range []impl.Exp{construct("S", 1), reckon(impl.ExAdd, 0, 1), reckon(impl.ExSub, 0, 1), reckon(impl.ExMul, 0, 1)} {
		exps := []impl.Exp{one, one, good}
		if at == 0 {
			wantRuleText(t, rule(exps, atom("p", 0, 2)), "p(1, S(1)).")
		} else {
			wantRuleText(t, rule(exps, atom("p", 2)), "p(1 "+string("+-*"[at-1])+" 1).")
		}
	}
	for _, bad := range append(noPlaces(2), 2) {
		wantNoRuleText(t, "a Kid of a constructor", rule([]impl.Exp{one, one, construct("S", bad)}, atom("p", 0, 1, 2)))
		wantNoRuleText(t, "a Kid of a constructor", rule([]impl.Exp{one, one, construct("S", 1, bad)}, atom("p", 0, 2)))
		for _, kind := range []int{impl.ExAdd, impl.ExSub, impl.ExMul} {
			wantNoRuleText(t, "the first Kid of a sum", rule([]impl.Exp{one, one, reckon(kind, bad, 1)}, atom("p", 0, 2)))
			wantNoRuleText(t, "the second Kid of a sum", rule([]impl.Exp{one, one, reckon(kind, 1, bad)}, atom("p", 0, 2)))
		}
	}
	wantNoRuleText(t, "a Kid behind its exp", rule([]impl.Exp{construct("S", 1), one}, atom("p", 0)))
	wantNoRuleText(t, "a sum ahead of its Kids", rule([]impl.Exp{reckon(impl.ExAdd, 1, 2), one, one}, atom("p", 0)))
	wantNoRuleText(t, "a sum between its Kids", rule([]impl.Exp{one, reckon(impl.ExAdd, 0, 2), one}, atom("p", 1)))
	wantNoRuleText(t, "an exp that is its own Kid alone", rule([]impl.Exp{construct("S", 0)}, atom("p")))
	wantNoRuleText(t, "an exp that is its own Kid and an Arg", rule([]impl.Exp{construct("S", 0)}, atom("p", 0)))
	wantNoRuleText(t, "two exps that are Kids of each other", rule([]impl.Exp{construct("S", 1), construct("S", 0)}, atom("p")))
}

// TestKidsMayComeInAnyOrder has texts, but ones that are read with other places.
func TestKidsMayComeInAnyOrder(t *testing.T) {
	x, y := variable("x"), variable("y")
	cases := []struct {
		rule impl.Rule
		want string
	}{
		{rule([]impl.Exp{x, y, reckon(impl.ExSub, 1, 0)}, atom("p", 2)), "p(y - x)."},
		{rule([]impl.Exp{x, y, construct("P", 1, 0)}, atom("p", 2)), "p(P(y, x))."},
		{rule([]impl.Exp{x, y}, atom("p", 1, 0)), "p(y, x)."},
		{rule([]impl.Exp{x, y}, atom("p", 1), atom("q", 0)), "p(y) :- q(x)."},
		{rule([]impl.Exp{x, y}, atom("p"), compare("<", 1, 0)), "p() :- y < x."},
		{rule([]impl.Exp{x, y, construct("S", 0)}, atom("p", 2), not("q", 1)), "p(S(x)) :- !q(y)."},
		{rule([]impl.Exp{x, x, reckon(impl.ExSub, 1, 0)}, atom("p", 2)), "p(x - x)."},
		{rule([]impl.Exp{x, x, construct("P", 1, 0)}, atom("p", 2)), "p(P(x, x))."},
		{rule([]impl.Exp{x, x}, atom("p", 1, 0)), "p(x, x)."},
		{rule([]impl.Exp{x, x}, atom("p", 1), atom("q", 0)), "p(x) :- q(x)."},
		{rule([]impl.Exp{x, x}, atom("p"), atom("q", 1, 0)), "p() :- q(x, x)."},
		{rule([]impl.Exp{x, x}, atom("p"), not("q", 1), not("q", 0)), "p() :- !q(x), !q(x)."},
		{rule([]impl.Exp{x, x}, atom("p"), compare("<", 1, 0)), "p() :- x < x."},
	}
	for _, c := range cases {
		wantRuleText(t, c.rule, c.want)
		wantSound(t, rules(c.rule), false)
	}
}

func TestAnArgIsAPlaceOfExps(t *testing.T) {
	one := term("1")
	for _, bad := range noPlaces(1) {
		exps := []impl.Exp{one}
		wantNoRuleText(t, "the only Arg of a head", rule(exps, atom("p", bad)))
		wantNoRuleText(t, "an Arg of a head", rule(exps, atom("p", 0, bad)))
		wantNoRuleText(t, "an Arg of an atom", rule(exps, atom("p", 0), atom("q", bad)))
		wantNoRuleText(t, "an Arg of a negated atom", rule(exps, atom("p", 0), not("q", bad)))
		wantNoRuleText(t, "the first one of a comparison", rule(exps, atom("p"), compare("=", bad, 0)))
		wantNoRuleText(t, "the second one of a comparison", rule(exps, atom("p"), compare("=", 0, bad)))
	}
	for _, bad := range noPlaces(0) {
		wantNoRuleText(t, "an Arg without Exps", rule(nil, atom("p", bad)))
		wantNoRuleText(t, "an Arg without Exps", rule(nil, atom("p"), atom("q"), not("q", bad)))
	}
	behind := []impl.Exp{one, one}
	wantNoRuleText(t, "an Arg behind the length of Exps", rule(behind[:1], atom("p", 0, 1)))
}

func TestAnExpIsJustOnceAKidOrAnArg(t *testing.T) {
	x, y, z := variable("x"), variable("y"), variable("z")
	cases := []struct {
		what string
		rule impl.Rule
	}{
		{"never, the only one", rule([]impl.Exp{x}, atom("p"))},
		{"never, the first one", rule([]impl.Exp{x, y}, atom("p", 1))},
		{"never, the last one", rule([]impl.Exp{x, y}, atom("p", 0))},
		{"never, with a body", rule([]impl.Exp{x, y, z}, atom("p", 0), atom("q", 2))},
		{"never, with Kids", rule([]impl.Exp{x, construct("S", 0)}, atom("p"))},
		{"twice a Kid of one constructor", rule([]impl.Exp{x, construct("P", 0, 0)}, atom("p", 1))},
		{"twice a Kid of one sum", rule([]impl.Exp{x, reckon(impl.ExAdd, 0, 0)}, atom("p", 1))},
		{"twice a Kid of one product", rule([]impl.Exp{x, reckon(impl.ExMul, 0, 0)}, atom("p", 1))},
		{"a Kid of two exps", rule([]impl.Exp{x, construct("S", 0), construct("S", 0)}, atom("p", 1, 2))},
		{"a Kid of an exp and of one around it", rule([]impl.Exp{x, construct("S", 0), reckon(impl.ExSub, 0, 1)}, atom("p", 2))},
		{"a Kid and an Arg of the head", rule([]impl.Exp{x, construct("S", 0)}, atom("p", 0, 1))},
		{"an Arg of the head and a Kid in it", rule([]impl.Exp{x, construct("S", 0)}, atom("p", 1, 0))},
		{"a Kid in the head and an Arg of the body", rule([]impl.Exp{x, construct("S", 0)}, atom("p", 1), atom("q", 0))},
		{"a Kid and an Arg of a comparison", rule([]impl.Exp{x, construct("S", 0)}, atom("p"), compare("=", 0, 1))},
		{"twice an Arg of the head", rule([]impl.Exp{x}, atom("p", 0, 0))},
		{"twice an Arg of an atom", rule([]impl.Exp{x, y}, atom("p", 0), atom("q", 1, 1))},
		{"twice an Arg of a negated atom", rule([]impl.Exp{x, y}, atom("p", 0), not("q", 1, 1))},
		{"twice an Arg of a comparison", rule([]impl.Exp{x}, atom("p"), compare("=", 0, 0))},
		{"an Arg of two atoms", rule([]impl.Exp{x}, atom("p"), atom("q", 0), atom("q", 0))},
		{"an Arg of an atom and a negated one", rule([]impl.Exp{x}, atom("p"), atom("q", 0), not("q", 0))},
		{"an Arg of an atom and a comparison", rule([]impl.Exp{x, y}, atom("p"), atom("q", 0), compare("<", 0, 1))},
		{"an Arg of the head and of an atom", rule([]impl.Exp{x}, atom("p", 0), atom("q", 0))},
		{"an Arg of the head and of a negated atom", rule([]impl.Exp{x}, atom("p", 0), not("q", 0))},
		{"an Arg of the head and of a comparison", rule([]impl.Exp{x, y}, atom("p", 0), compare("=", 1, 0))},
		{"once too often, and once never", rule([]impl.Exp{x, y}, atom("p", 0, 0))},
	}
	for _, c := range cases {
		wantNoRuleText(t, c.what, c.rule)
	}
	wantRuleText(t, rule([]impl.Exp{x, x, construct("P", 0, 1), x}, atom("p", 2), atom("q", 3)), "p(P(x, x)) :- q(x).")
}

func TestKindsThatAreNone(t *testing.T) {
	x, y := variable("x"), variable("y")
	for _, kind := range []int{0, -1, 8, 9, 100, math.MinInt, math.MaxInt} {
		bad := impl.Exp{Kind: kind, Text: "x"}
		wantNoRuleText(t, "an exp", rule([]impl.Exp{bad}, atom("p", 0)))
		wantNoRuleText(t, "an exp with Kids", rule([]impl.Exp{x, y, reckon(kind, 0, 1)}, atom("p", 2)))
		wantNoRuleText(t, "a Kid", rule([]impl.Exp{x, bad, reckon(impl.ExAdd, 0, 1)}, atom("p", 2)))
		wantNoRuleText(t, "an exp of the body", rule([]impl.Exp{x, bad}, atom("p", 0), compare("=", 0, 1)))
	}
	for _, kind := range []int{0, -1, 4, 5, 100, math.MinInt, math.MaxInt} {
		none := impl.Lit{Kind: kind, Name: "q"}
		two := impl.Lit{Kind: kind, Name: "=", Args: []int{0, 1}}
		wantNoRuleText(t, "a literal", rule(nil, atom("p"), none))
		wantNoRuleText(t, "a literal behind others", rule(nil, atom("p"), atom("q"), not("q"), none))
		wantNoRuleText(t, "a literal ahead of others", rule(nil, atom("p"), none, atom("q")))
		wantNoRuleText(t, "a literal with Args", rule([]impl.Exp{x, y}, atom("p"), two))
		wantNoRuleText(t, "a head", rule(nil, none))
		wantNoRuleText(t, "a head with a body", rule([]impl.Exp{x, y}, two, atom("q")))
	}
}

func TestAHeadIsALtAtom(t *testing.T) {
	x, y := variable("x"), variable("y")
	wantNoRuleText(t, "a negated atom", rule(nil, not("p")))
	wantNoRuleText(t, "a negated atom with Args", rule([]impl.Exp{x, y}, not("p", 0, 1)))
	wantNoRuleText(t, "a negated atom with a body", rule(nil, not("p"), atom("q")))
	wantNoRuleText(t, "a comparison", rule([]impl.Exp{x, y}, compare("=", 0, 1)))
	wantNoRuleText(t, "a comparison with a body", rule([]impl.Exp{x, y}, compare("<", 0, 1), atom("q")))
	wantNoRuleText(t, "a literal without a Kind", rule(nil, impl.Lit{Name: "p"}))
}

// onesAnd is n ones and then the exp that has them all as Kids.
func onesAnd(n int, kind int) []impl.Exp {
	var list []impl.Exp
	last := impl.Exp{Kind: kind, Text: "A"}
	for i := range n {
		list = append(list, term("1"))
		last.Kids = append(last.Kids, i)
	}
	return append(list, last)
}

func TestEachKindHasItsNumberOfKids(t *testing.T) {
	texts := map[int]string{
		impl.ExVar: "A", impl.ExAny: "_", impl.ExTerm: "A", impl.ExAdd: "1 + 1", impl.ExSub: "1 - 1", impl.ExMul: "1 * 1",
	}
	for kind, text := range texts {
		right := 0
		if kind >= impl.ExAdd {
			right = 2
		}
		for n := range 9 {
			r := rule(onesAnd(n, kind), atom("p", n))
			if n == right {
				wantRuleText(t, r, "p("+text+").")
			} else {
				wantNoRuleText(t, "an exp with a wrong number of Kids", r)
			}
		}
	}
	wantRuleText(t, rule(onesAnd(0, impl.ExCon), atom("p", 0)), "p(A).")
	for n := 1; n < impl.MaxExps; n++ {
		wantRuleText(t, rule(onesAnd(n, impl.ExCon), atom("p", n)), "p(A("+repeated("1", n, ", ")+")).")
	}
}

// onesIn is a rule whose only literal of the body has n ones.
func onesIn(lit impl.Lit, n int) impl.Rule {
	r := rule(nil, atom("p"))
	for i := range n {
		r.Exps = append(r.Exps, term("1"))
		lit.Args = append(lit.Args, i)
	}
	r.Body = []impl.Lit{lit}
	return r
}

func TestEachLiteralHasItsNumberOfArgs(t *testing.T) {
	for n := range impl.MaxExps + 1 {
		ones := repeated("1", n, ", ")
		wantRuleText(t, onesIn(atom("q"), n), "p() :- q("+ones+").")
		wantRuleText(t, onesIn(not("q"), n), "p() :- !q("+ones+").")
		fact := onesIn(atom("q"), n)
		wantRuleText(t, impl.Rule{Exps: fact.Exps, Head: fact.Body[0]}, "q("+ones+").")
		for _, sign := range []string{"=", "!=", "<", "<="} {
			r := onesIn(impl.Lit{Kind: impl.LtCmp, Name: sign}, n)
			if n == 2 {
				wantRuleText(t, r, "p() :- 1 "+sign+" 1.")
			} else {
				wantNoRuleText(t, "a comparison of a wrong number of exps", r)
			}
		}
	}
}

func TestModesThatAreNone(t *testing.T) {
	for _, mode := range []int{-1, 4, 5, 100, math.MinInt, math.MaxInt} {
		bad := impl.RelDecl{Name: "p", Mode: mode}
		good := impl.RelDecl{Name: "q"}
		for _, list := range [][]impl.RelDecl{{bad}, {bad, good}, {good, bad}} {
			p := impl.Prog{Rels: list, Rules: []impl.Rule{rule(nil, atom("p"))}}
			wantProgText(t, p, "")
			wantSound(t, p, false)
		}
	}
}

func TestTheMostExpsOfARule(t *testing.T) {
	for _, lit := range []impl.Lit{atom("q"), not("q")} {
		most := onesIn(lit, impl.MaxExps)
		if impl.RuleText(most) == "" || impl.ProgText(rules(most, most)) == "" {
			t.Errorf("there is no text of %d Exps", impl.MaxExps)
		}
		wantNoRuleText(t, "one exp too many", onesIn(lit, impl.MaxExps+1))
		wantNoRuleText(t, "two exps too many", onesIn(lit, impl.MaxExps+2))
	}
	for _, n := range []int{impl.MaxExps, impl.MaxExps + 1} {
		exps := []impl.Exp{variable("x")}
		for len(exps) < n {
			exps = append(exps, construct("S", len(exps)-1))
		}
		r := rule(exps, atom("p", n-1))
		if n == impl.MaxExps {
			wantSoundText(t, rules(r), "p("+nested(n-1, "x")+").\n")
		} else {
			wantNoRuleText(t, "one exp too many, each within the next", r)
		}
	}
}

func TestTheLongestTextOfARule(t *testing.T) {
	around := len("p().")
	for _, n := range []int{impl.MaxSource - 2, impl.MaxSource - 1, impl.MaxSource, impl.MaxSource + 1, impl.MaxSource + 2} {
		text := strings.Repeat("x", n-around)
		r := rule([]impl.Exp{variable(text)}, atom("p", 0))
		want := "p(" + text + ")."
		if n > impl.MaxSource {
			want = ""
		}
		if got := impl.RuleText(r); got != want {
			t.Errorf("RuleText of %d bytes has %d bytes", n, len(got))
		}
		if n < impl.MaxSource {
			want += "\n"
		} else {
			want = "" // the byte 10 is one more
		}
		if got := impl.ProgText(rules(r)); got != want {
			t.Errorf("ProgText of a line of %d bytes has %d bytes", n, len(got))
		}
		wantSound(t, rules(r), false)
	}
}

// TestTheLongestTextOfAProgram makes the text too long by each of its parts.
func TestTheLongestTextOfAProgram(t *testing.T) {
	parts := []func(s string) impl.Prog{
		func(s string) impl.Prog { return impl.Prog{Types: []impl.TypeDecl{{Name: s}}} },
		func(s string) impl.Prog { return impl.Prog{Types: []impl.TypeDecl{{Cons: []impl.Con{{}, {Name: s}}}}} },
		func(s string) impl.Prog {
			return impl.Prog{Types: []impl.TypeDecl{{Cons: []impl.Con{{Types: []string{"", s, "A"}}}}}}
		},
		func(s string) impl.Prog { return impl.Prog{Rels: []impl.RelDecl{{Name: s, Mode: impl.MdOutput}}} },
		func(s string) impl.Prog { return impl.Prog{Rels: []impl.RelDecl{{Types: []string{"", s}}}} },
		func(s string) impl.Prog { return rules(rule(nil, atom(s))) },
		func(s string) impl.Prog { return rules(rule(nil, atom("p"), atom("q"), not(s))) },
		func(s string) impl.Prog { return rules(rule(nil, atom("p")), rule(nil, atom("p"), atom(s))) },
		func(s string) impl.Prog { return rules(rule([]impl.Exp{term(s), construct("S", 0)}, atom("p", 1))) },
		func(s string) impl.Prog {
			return rules(rule([]impl.Exp{term("1"), variable(s), reckon(impl.ExMul, 0, 1)}, atom("p", 2)))
		},
		func(s string) impl.Prog {
			return rules(rule([]impl.Exp{term("1"), term("1")}, atom("p"), compare(s, 0, 1)))
		},
	}
	for i, part := range parts {
		around := len(impl.ProgText(part("")))
		for n := impl.MaxSource - 1; n <= impl.MaxSource+2; n++ {
			want := n
			if n > impl.MaxSource {
				want = 0
			}
			if got := len(impl.ProgText(part(strings.Repeat("z", n-around)))); got != want || around == 0 {
				t.Errorf("part %d: ProgText of %d bytes has %d bytes", i, n, got)
			}
		}
	}
}

func TestManyLinesMakeATextTooLong(t *testing.T) {
	line := "p().\n"
	for _, n := range []int{impl.MaxSource / len(line), impl.MaxSource/len(line) + 1} {
		var p impl.Prog
		for range n {
			p.Rules = append(p.Rules, rule(nil, atom("p")))
		}
		want := strings.Repeat(line, n)
		if len(want) > impl.MaxSource {
			want = ""
		}
		wantProgText(t, p, want)
		wantSound(t, p, false)
	}
}

// TestVastArgumentsAreAnswered has trees whose texts nobody could write.
func TestVastArgumentsAreAnswered(t *testing.T) {
	doubled := []impl.Exp{term("1")}
	for len(doubled) < impl.MaxExps {
		last := len(doubled) - 1
		doubled = append(doubled, reckon(impl.ExAdd, last, last))
	}
	wantNoRuleText(t, "each exp twice in the next", rule(doubled, atom("p", len(doubled)-1)))
	zeros := make([]int, 1000000)
	wantNoRuleText(t, "a million Kids", rule([]impl.Exp{term("1"), construct("A", zeros...)}, atom("p", 1)))
	wantNoRuleText(t, "a million Args", rule([]impl.Exp{term("1")}, atom("p", zeros...)))
	wantNoRuleText(t, "a million literals", impl.Rule{Head: atom("p"), Body: make([]impl.Lit, 1000000)})
	wantNoRuleText(t, "a million Exps", rule(make([]impl.Exp, 1000000), atom("p")))
	wantProgText(t, impl.Prog{Types: make([]impl.TypeDecl, 1000000)}, "")
	wantProgText(t, impl.Prog{Rels: make([]impl.RelDecl, 1000000)}, "")
	wantProgText(t, impl.Prog{Rules: make([]impl.Rule, 1000000)}, "")
	vast := strings.Repeat("x", 1<<24)
	wide := onesIn(atom(vast), impl.MaxExps)
	for i := range wide.Exps {
		wide.Exps[i].Text = vast
	}
	wantNoRuleText(t, "texts of many bytes", wide)
}
