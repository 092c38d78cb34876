package tests

import (
	"strings"
	"testing"

	"loop.example/g00531/impl"
)

// wantTextButUnsound wants a program with a text that it is not read from.
func wantTextButUnsound(t *testing.T, what string, p impl.Prog) {
	t.Helper()
	if impl.ProgText(p) == "" {
		t.Errorf("%s: there is no text", what)
	}
	if impl.ProgSound(p) {
		t.Errorf("%s: ProgSound of %.400q", what, impl.ProgText(p))
	}
}

func factOf(exps ...impl.Exp) impl.Prog { return rules(rule(exps, atom("p", len(exps)-1))) }

func typeOf(name string, cons ...impl.Con) impl.Prog {
	return impl.Prog{Types: []impl.TypeDecl{{Name: name, Cons: cons}}}
}

func relOf(name string, types ...string) impl.Prog {
	return impl.Prog{Rels: []impl.RelDecl{{Name: name, Types: types}}}
}

func TestNamesThatAreNoneAreNotSound(t *testing.T) {
	long := strings.Repeat("n", impl.MaxName)
	small := []string{"x", "v1", "a_Z9", "input", long}
	noSmall := []string{"", "X", "1", "_", "_x", "a b", "a-b", "é", "a\n", " a", "a ", "p()", "a//", long + "n"}
	for _, s := range small {
		wantSound(t, factOf(variable(s)), true)
		wantSound(t, relOf(s, "T"), true)
		wantSound(t, rules(rule(nil, atom(s))), true)
		wantSound(t, rules(rule(nil, atom("p"), atom(s), not(s))), true)
	}
	for _, s := range noSmall {
		wantTextButUnsound(t, "a variable", factOf(variable(s)))
		wantTextButUnsound(t, "a relation", relOf(s, "T"))
		wantTextButUnsound(t, "a head", rules(rule(nil, atom(s))))
		wantTextButUnsound(t, "an atom", rules(rule(nil, atom("p"), atom(s))))
		wantTextButUnsound(t, "a negated atom", rules(rule(nil, atom("p"), not(s))))
	}
	big := []string{"X", "V1", "A_z9", strings.ToUpper(long)}
	noBig := []string{"", "x", "1", "_", "_X", "A B", "A-B", "É", "A\n", " A", "A ", "A(B)", strings.ToUpper(long) + "N"}
	for _, s := range big {
		wantSound(t, factOf(construct(s)), true)
		wantSound(t, factOf(term("1"), construct(s, 0)), true)
		wantSound(t, typeOf(s, impl.Con{Name: "A"}), true)
		wantSound(t, typeOf("A", impl.Con{Name: s}, impl.Con{Name: s, Types: []string{s}}), true)
		wantSound(t, relOf("p", s, "number", s), true)
	}
	for _, s := range noBig {
		wantTextButUnsound(t, "a constructor", factOf(construct(s)))
		wantTextButUnsound(t, "a constructor with Kids", factOf(term("1"), construct(s, 0)))
		wantTextButUnsound(t, "a type", typeOf(s, impl.Con{Name: "A"}))
		wantTextButUnsound(t, "a type's constructor", typeOf("A", impl.Con{Name: "B"}, impl.Con{Name: s}))
		wantTextButUnsound(t, "a type of a constructor", typeOf("A", impl.Con{Name: "B", Types: []string{"A", s}}))
		wantTextButUnsound(t, "a type of a relation", relOf("p", s, "T"))
	}
}

func TestWordsOfTheLanguageAsNames(t *testing.T) {
	for _, s := range []string{"type", "rel"} {
		wantTextButUnsound(t, "a head", rules(rule(nil, atom(s))))
		wantSound(t, rules(rule(nil, atom("p"), atom(s), not(s))), true)
		wantSound(t, factOf(variable(s)), true)
		wantSound(t, relOf(s), true)
	}
	for _, s := range []string{"number", "symbol", "input", "output", "inline"} {
		wantSound(t, rules(rule(nil, atom(s), atom(s))), true)
		wantSound(t, factOf(variable(s)), true)
		wantSound(t, relOf(s), true)
		if s == "number" || s == "symbol" {
			wantSound(t, relOf("p", s), true)
			wantSound(t, typeOf("A", impl.Con{Name: "B", Types: []string{s}}), true)
		} else {
			wantTextButUnsound(t, "a type of a relation", relOf("p", s))
		}
		wantTextButUnsound(t, "a type", typeOf(s, impl.Con{Name: "A"}))
	}
}

func TestTermsThatAreNoneAreNotSound(t *testing.T) {
	symbol := `"` + strings.Repeat("s", impl.MaxName) + `"`
	for _, s := range []string{"0", "1", "-1", "1000000", "-1000000", `""`, `"a"`, `" ~"`, `"-0"`, symbol} {
		wantSound(t, factOf(term(s)), true)
		wantSound(t, factOf(term(s), term(s), reckon(impl.ExSub, 0, 1)), true)
	}
	bad := []string{
		"", "-", "-0", "00", "01", "-01", "+1", "1000001", "-1000001", "1.", "- 1", " 1", "1 ", "(1)", "1 + 1", "--1",
		`"`, `"a`, `"a\"`, "\"\n\"", "\"\x7f\"", `"a" `, symbol[:1] + symbol, "x", "_",
		"Nil", "S(1)", "S(x)",
	}
	for _, s := range bad {
		wantTextButUnsound(t, "a term", factOf(term(s)))
		wantTextButUnsound(t, "a term in a sum", factOf(term("1"), term(s), reckon(impl.ExAdd, 0, 1)))
	}
}

func TestSignsThatAreNoneAreNotSound(t *testing.T) {
	exps := []impl.Exp{variable("x"), variable("y")}
	for _, s := range []string{"", "==", ">", ">=", "=<", "! =", "<>", "+", ":-", ",", "p", " =", "= "} {
		wantTextButUnsound(t, "a comparison", rules(rule(exps, atom("p"), compare(s, 0, 1))))
	}
}

func TestFieldsThatAreNotToldAreNotSound(t *testing.T) {
	x, y := variable("x"), variable("y")
	wantTextButUnsound(t, "an ExAny with a Text", factOf(impl.Exp{Kind: impl.ExAny, Text: "_"}))
	for _, kind := range []int{impl.ExAdd, impl.ExSub, impl.ExMul} {
		wantTextButUnsound(t, "a sum with a Text", factOf(x, y, impl.Exp{Kind: kind, Text: "+", Kids: []int{0, 1}}))
	}
}

// TestTextsThatReadOtherwiseAreNotSound has trees whose texts are those of other
// trees.
func TestTextsThatReadOtherwiseAreNotSound(t *testing.T) {
	x, one := variable("x"), term("1")
	cases := []struct {
		what string
		p    impl.Prog
		text string
	}{
		{"a variable that is a term", factOf(variable("1")), "p(1).\n"},
		{"a variable that is a symbol", factOf(variable(`"a"`)), "p(\"a\").\n"},
		{"a variable that is a constructor", factOf(variable("X")), "p(X).\n"},
		{"a variable that fits all", factOf(variable("_")), "p(_).\n"},
		{"a variable that is a sum", factOf(variable("x + y")), "p(x + y).\n"},
		{"a variable that is two", factOf(variable("x, y")), "p(x, y).\n"},
		{"a variable in brackets", factOf(variable("(x)")), "p((x)).\n"},
		{"a term that is a variable", factOf(term("x")), "p(x).\n"},
		{"a term that is a constructor", factOf(term("Nil")), "p(Nil).\n"},
		{"a constructor that is a variable", factOf(construct("x")), "p(x).\n"},
		{"a constructor that is a sum", factOf(construct("A + B")), "p(A + B).\n"},
		{"a constructor with its Kids in its name", factOf(construct("A(1)")), "p(A(1)).\n"},
		{"a sum in a constructor's name", factOf(one, construct("A + B", 0)), "p(A + B(1)).\n"},
		{"a variable with a blank", factOf(variable(" x")), "p( x).\n"},
		{"a variable with a comment", factOf(variable("x//\n")), "p(x//\n).\n"},
		{"a product of a sum without brackets", factOf(variable("x + y"), one, reckon(impl.ExMul, 0, 1)), "p(x + y * 1).\n"},
		{"a head that is two rules", rules(rule(nil, atom("p(). q"))), "p(). q().\n"},
		{"a head that is a declaration", rules(rule(nil, atom("rel p"))), "rel p().\n"},
		{"an atom that is two", rules(rule(nil, atom("p"), atom("q(), r"))), "p() :- q(), r().\n"},
		{"an atom that is negated", rules(rule(nil, atom("p"), atom("!q"))), "p() :- !q().\n"},
		{"a sign with a literal", rules(rule([]impl.Exp{x, one}, atom("p"), compare("= 1, 1 =", 0, 1))), "p() :- x = 1, 1 = 1.\n"},
		{"a type of two", typeOf("T", impl.Con{Name: "A", Types: []string{"T, T"}}), "type T = A(T, T).\n"},
		{"a constructor of two", typeOf("T", impl.Con{Name: "A | B"}), "type T = A | B.\n"},
		{"a constructor with its types in its name", typeOf("T", impl.Con{Name: "A(T)"}), "type T = A(T).\n"},
		{"a type with a constructor in its name", typeOf("T = A. type U", impl.Con{Name: "B"}), "type T = A. type U = B.\n"},
		{"a relation of an empty type", relOf("p", ""), "rel p().\n"},
		{"a relation with a type of two", relOf("p", "T, T"), "rel p(T, T).\n"},
		{"a relation of two", relOf("p(). rel q", "T"), "rel p(). rel q(T).\n"},
	}
	for _, c := range cases {
		wantProgText(t, c.p, c.text)
		wantTextButUnsound(t, c.what, c.p)
		p, _, code := impl.Parse(c.text)
		if code != impl.SyOK || sameProg(p, c.p) || !impl.ProgSound(p) {
			t.Errorf("%s: Parse(%q) = %v, %d", c.what, c.text, p, code)
		}
	}
}

func TestATypeWithoutConsIsNotSound(t *testing.T) {
	wantTextButUnsound(t, "a type", typeOf("T"))
	wantTextButUnsound(t, "a type among others", impl.Prog{Types: append(typeOf("T", impl.Con{Name: "A"}).Types, typeOf("U").Types...)})
}

// times is a list of n times the same.
func times[T any](n int, item T) []T {
	var list []T
	for range n {
		list = append(list, item)
	}
	return list
}

func TestMoreThanParseTakesIsNotSound(t *testing.T) {
	con := impl.Con{Name: "A"}
	cases := []struct {
		what string
		most int
		of   func(n int) impl.Prog
	}{
		{"types", impl.MaxTypes, func(n int) impl.Prog { return impl.Prog{Types: times(n, typeOf("T", con).Types[0])} }},
		{"relations", impl.MaxRels, func(n int) impl.Prog { return impl.Prog{Rels: times(n, relOf("p").Rels[0])} }},
		{"rules", impl.MaxRules, func(n int) impl.Prog { return impl.Prog{Rules: times(n, rule(nil, atom("p")))} }},
		{"constructors of a type", impl.MaxBody, func(n int) impl.Prog { return typeOf("T", times(n, con)...) }},
		{"types of a constructor", impl.MaxArity, func(n int) impl.Prog { return typeOf("T", con, impl.Con{Name: "B", Types: times(n, "T")}) }},
		{"types of a relation", impl.MaxArity, func(n int) impl.Prog { return relOf("p", times(n, "number")...) }},
		{"exps of an atom", impl.MaxArity, func(n int) impl.Prog { return rules(onesIn(atom("q"), n)) }},
		{"exps of a negated atom", impl.MaxArity, func(n int) impl.Prog { return rules(onesIn(not("q"), n)) }},
		{"exps of a head", impl.MaxArity, func(n int) impl.Prog {
			r := onesIn(atom("q"), n)
			return rules(impl.Rule{Exps: r.Exps, Head: r.Body[0]})
		}},
		{"exps of a constructor", impl.MaxArity, func(n int) impl.Prog { return factOf(onesAnd(n, impl.ExCon)...) }},
		{"literals of a rule", impl.MaxBody, func(n int) impl.Prog { return rules(rule(nil, atom("p"), times(n, not("q"))...)) }},
	}
	for _, c := range cases {
		wantSound(t, c.of(c.most-1), true)
		wantSound(t, c.of(c.most), true)
		wantTextButUnsound(t, c.what, c.of(c.most+1))
		wantTextButUnsound(t, c.what, c.of(c.most+2))
	}
}

// TestTheLongestSoundProgram has a text of as many bytes as Parse takes, and then
// one more.
func TestTheLongestSoundProgram(t *testing.T) {
	name := strings.Repeat("n", impl.MaxName)
	full := onesIn(atom(name), impl.MaxArity)
	for i := range full.Exps {
		full.Exps[i] = term(`"` + strings.Repeat("s", impl.MaxName) + `"`)
	}
	p := rules(full)
	for len(impl.ProgText(p)) < impl.MaxSource-400 {
		p.Rules = append(p.Rules, full)
	}
	for len(impl.ProgText(p)) < impl.MaxSource-40 {
		p.Rules = append(p.Rules, rule(nil, atom(name)))
	}
	rest := impl.MaxSource - len(impl.ProgText(p)) - len("p() :- q().\n")
	for _, more := range []int{0, 1} {
		q := p
		q.Rules = append(append([]impl.Rule{}, p.Rules...), rule(nil, atom("p"+name[:rest/2]), atom("q"+name[:rest-rest/2+more])))
		if got, want := len(impl.ProgText(q)), impl.MaxSource*(1-more); got != want {
			t.Errorf("ProgText has %d bytes, want %d", got, want)
		}
		wantSound(t, q, more == 0)
	}
}
