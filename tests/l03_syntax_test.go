package tests

import (
	"fmt"
	"slices"
	"testing"

	"loop.example/g00531/impl"
)

func sameExp(a, b impl.Exp) bool {
	return a.Kind == b.Kind && a.Text == b.Text && slices.Equal(a.Kids, b.Kids)
}

func sameLit(a, b impl.Lit) bool {
	return a.Kind == b.Kind && a.Name == b.Name && slices.Equal(a.Args, b.Args)
}

func sameRule(a, b impl.Rule) bool {
	return slices.EqualFunc(a.Exps, b.Exps, sameExp) && sameLit(a.Head, b.Head) && slices.EqualFunc(a.Body, b.Body, sameLit)
}

func sameCon(a, b impl.Con) bool { return a.Name == b.Name && slices.Equal(a.Types, b.Types) }

func sameType(a, b impl.TypeDecl) bool {
	return a.Name == b.Name && slices.EqualFunc(a.Cons, b.Cons, sameCon)
}

func sameRelDecl(a, b impl.RelDecl) bool {
	return a.Name == b.Name && slices.Equal(a.Types, b.Types) && a.Mode == b.Mode
}

func sameProg(a, b impl.Prog) bool {
	return slices.EqualFunc(a.Types, b.Types, sameType) && slices.EqualFunc(a.Rels, b.Rels, sameRelDecl) && slices.EqualFunc(a.Rules, b.Rules, sameRule)
}

func variable(name string) impl.Exp { return impl.Exp{Kind: impl.ExVar, Text: name} }

func anything() impl.Exp { return impl.Exp{Kind: impl.ExAny} }

func term(text string) impl.Exp { return impl.Exp{Kind: impl.ExTerm, Text: text} }

func construct(name string, kids ...int) impl.Exp {
	return impl.Exp{Kind: impl.ExCon, Text: name, Kids: kids}
}

func reckon(kind int, left, right int) impl.Exp {
	return impl.Exp{Kind: kind, Kids: []int{left, right}}
}

func atom(name string, args ...int) impl.Lit {
	return impl.Lit{Kind: impl.LtAtom, Name: name, Args: args}
}

func not(name string, args ...int) impl.Lit {
	return impl.Lit{Kind: impl.LtNot, Name: name, Args: args}
}

func compare(sign string, left, right int) impl.Lit {
	return impl.Lit{Kind: impl.LtCmp, Name: sign, Args: []int{left, right}}
}

func rule(exps []impl.Exp, head impl.Lit, body ...impl.Lit) impl.Rule {
	return impl.Rule{Exps: exps, Head: head, Body: body}
}

func rules(list ...impl.Rule) impl.Prog { return impl.Prog{Rules: list} }

func wantProg(t *testing.T, s string, want impl.Prog) {
	t.Helper()
	got, at, code := impl.Parse(s)
	if code != impl.SyOK || at != 0 || !sameProg(got, want) {
		t.Errorf("Parse(%.200q) = %.800s, %d, %d, want %.800s, 0, 0", s, fmt.Sprint(got), at, code, fmt.Sprint(want))
	}
}

func wantNoProg(t *testing.T, s string, at int, code int) {
	t.Helper()
	got, gotAt, gotCode := impl.Parse(s)
	if gotCode != code || gotAt != at || !sameProg(got, impl.Prog{}) {
		t.Errorf("Parse(%.200q) = %.800s, %d, %d, want nothing, %d, %d", s, fmt.Sprint(got), gotAt, gotCode, at, code)
	}
}

func TestParseOfNothing(t *testing.T) {
	for _, s := range []string{"", " ", "\r\n\t", "// p(1).", "// p(1).\n", "//\n//"} {
		wantProg(t, s, impl.Prog{})
	}
}

func TestParseOfAProgram(t *testing.T) {
	source := `// lists and their sums
type List = Nil | Cons(number, List).
rel total(List, number) output. // what is asked for
rel given(List) input.
total(Nil, 0).
type Flag = On|Off .
total(Cons(x, l), x + n) :- given(Cons(x, l)), total(l, n), !wrong("a b", _), l != Nil, n <= -3.
rel wrong ( symbol , number ) inline .
rel none().
none().
`
	wantProg(t, source, impl.Prog{
		Types: []impl.TypeDecl{
			{Name: "List", Cons: []impl.Con{{Name: "Nil"}, {Name: "Cons", Types: []string{"number", "List"}}}},
			{Name: "Flag", Cons: []impl.Con{{Name: "On"}, {Name: "Off"}}},
		},
		Rels: []impl.RelDecl{
			{Name: "total", Types: []string{"List", "number"}, Mode: impl.MdOutput},
			{Name: "given", Types: []string{"List"}, Mode: impl.MdInput},
			{Name: "wrong", Types: []string{"symbol", "number"}, Mode: impl.MdInline},
			{Name: "none", Mode: impl.MdPlain},
		},
		Rules: []impl.Rule{
			rule([]impl.Exp{construct("Nil"), term("0")}, atom("total", 0, 1)),
			rule([]impl.Exp{
				variable("x"), variable("l"), construct("Cons", 0, 1), variable("x"), variable("n"), reckon(impl.ExAdd, 3, 4),
				variable("x"), variable("l"), construct("Cons", 6, 7),
				variable("l"), variable("n"),
				term(`"a b"`), anything(),
				variable("l"), construct("Nil"),
				variable("n"), term("-3"),
			}, atom("total", 2, 5), atom("given", 8), atom("total", 9, 10), not("wrong", 11, 12), compare("!=", 13, 14), compare("<=", 15, 16)),
			rule(nil, atom("none")),
		},
	})
}

func TestParseOfDeclarations(t *testing.T) {
	types := []struct {
		source string
		want   impl.TypeDecl
	}{
		{"type A=B.", impl.TypeDecl{Name: "A", Cons: []impl.Con{{Name: "B"}}}},
		{"type A = A.", impl.TypeDecl{Name: "A", Cons: []impl.Con{{Name: "A"}}}},
		{"type A = B | B | B(A).", impl.TypeDecl{Name: "A", Cons: []impl.Con{{Name: "B"}, {Name: "B"}, {Name: "B", Types: []string{"A"}}}}},
		{"type A = B(number, symbol, C)|D(A).", impl.TypeDecl{Name: "A", Cons: []impl.Con{{Name: "B", Types: []string{"number", "symbol", "C"}}, {Name: "D", Types: []string{"A"}}}}},
	}
	for _, c := range types {
		wantProg(t, c.source, impl.Prog{Types: []impl.TypeDecl{c.want}})
	}
	rels := []struct {
		source string
		want   impl.RelDecl
	}{
		{"rel p().", impl.RelDecl{Name: "p"}},
		{"rel p()input.", impl.RelDecl{Name: "p", Mode: impl.MdInput}},
		{"rel p() output.", impl.RelDecl{Name: "p", Mode: impl.MdOutput}},
		{"rel p() inline.", impl.RelDecl{Name: "p", Mode: impl.MdInline}},
		{"rel p(number,symbol,T) inline.", impl.RelDecl{Name: "p", Types: []string{"number", "symbol", "T"}, Mode: impl.MdInline}},
		{"rel type(T).", impl.RelDecl{Name: "type", Types: []string{"T"}}},
		{"rel rel(T).", impl.RelDecl{Name: "rel", Types: []string{"T"}}},
		{"rel input() input.", impl.RelDecl{Name: "input", Mode: impl.MdInput}},
		{"rel number(number).", impl.RelDecl{Name: "number", Types: []string{"number"}}},
	}
	for _, c := range rels {
		wantProg(t, c.source, impl.Prog{Rels: []impl.RelDecl{c.want}})
	}
}

// TestParseOfOneExp reads each as the only argument of a head: its place is the
// last one.
func TestParseOfOneExp(t *testing.T) {
	x, y, z := variable("x"), variable("y"), variable("z")
	add, sub, mul := impl.ExAdd, impl.ExSub, impl.ExMul
	cases := []struct {
		source string
		exps   []impl.Exp
	}{
		{"x", []impl.Exp{x}}, {"_", []impl.Exp{anything()}}, {"12", []impl.Exp{term("12")}}, {`"a"`, []impl.Exp{term(`"a"`)}}, {`""`, []impl.Exp{term(`""`)}},
		{"Nil", []impl.Exp{construct("Nil")}}, {"S(1)", []impl.Exp{term("1"), construct("S", 0)}},
		{"type", []impl.Exp{variable("type")}}, {"rel", []impl.Exp{variable("rel")}}, {"number", []impl.Exp{variable("number")}}, {"output", []impl.Exp{variable("output")}},
		{"0", []impl.Exp{term("0")}}, {"-1", []impl.Exp{term("-1")}}, {"- 1", []impl.Exp{term("-1")}}, {"-//\n7", []impl.Exp{term("-7")}}, {"-1000000", []impl.Exp{term("-1000000")}}, {"1000000", []impl.Exp{term("1000000")}}, {"-0", []impl.Exp{term("0")}},
		{"(x)", []impl.Exp{x}}, {"((((x))))", []impl.Exp{x}}, {"(-1)", []impl.Exp{term("-1")}}, {"(Nil)", []impl.Exp{construct("Nil")}}, {"S((x))", []impl.Exp{x, construct("S", 0)}},
		{"x + y", []impl.Exp{x, y, reckon(add, 0, 1)}}, {"x-y", []impl.Exp{x, y, reckon(sub, 0, 1)}}, {"x*y", []impl.Exp{x, y, reckon(mul, 0, 1)}},
		{"x-1", []impl.Exp{x, term("1"), reckon(sub, 0, 1)}}, {"x - -1", []impl.Exp{x, term("-1"), reckon(sub, 0, 1)}}, {"x+-1", []impl.Exp{x, term("-1"), reckon(add, 0, 1)}}, {"x*-1", []impl.Exp{x, term("-1"), reckon(mul, 0, 1)}},
		{"-1-1", []impl.Exp{term("-1"), term("1"), reckon(sub, 0, 1)}}, {"-1*2", []impl.Exp{term("-1"), term("2"), reckon(mul, 0, 1)}},
		{"x + y + z", []impl.Exp{x, y, reckon(add, 0, 1), z, reckon(add, 2, 3)}},
		{"x - y - z", []impl.Exp{x, y, reckon(sub, 0, 1), z, reckon(sub, 2, 3)}},
		{"x - y + z", []impl.Exp{x, y, reckon(sub, 0, 1), z, reckon(add, 2, 3)}},
		{"x + y - z", []impl.Exp{x, y, reckon(add, 0, 1), z, reckon(sub, 2, 3)}},
		{"x * y * z", []impl.Exp{x, y, reckon(mul, 0, 1), z, reckon(mul, 2, 3)}},
		{"x + (y + z)", []impl.Exp{x, y, z, reckon(add, 1, 2), reckon(add, 0, 3)}},
		{"x - (y - z)", []impl.Exp{x, y, z, reckon(sub, 1, 2), reckon(sub, 0, 3)}},
		{"x * (y * z)", []impl.Exp{x, y, z, reckon(mul, 1, 2), reckon(mul, 0, 3)}},
		{"x + y * z", []impl.Exp{x, y, z, reckon(mul, 1, 2), reckon(add, 0, 3)}},
		{"x * y + z", []impl.Exp{x, y, reckon(mul, 0, 1), z, reckon(add, 2, 3)}},
		{"x * y - z * x", []impl.Exp{x, y, reckon(mul, 0, 1), z, x, reckon(mul, 3, 4), reckon(sub, 2, 5)}},
		{"(x + y) * z", []impl.Exp{x, y, reckon(add, 0, 1), z, reckon(mul, 2, 3)}},
		{"x * (y - z)", []impl.Exp{x, y, z, reckon(sub, 1, 2), reckon(mul, 0, 3)}},
		{"((x) + ((y)))", []impl.Exp{x, y, reckon(add, 0, 1)}},
		{"P(x + 1, Q(_, Nil), \"s\" )", []impl.Exp{x, term("1"), reckon(add, 0, 1), anything(), construct("Nil"), construct("Q", 3, 4), term(`"s"`), construct("P", 2, 5, 6)}},
		{"S(x) + Nil * _", []impl.Exp{x, construct("S", 0), construct("Nil"), anything(), reckon(mul, 2, 3), reckon(add, 1, 4)}},
		{"P(x, x)", []impl.Exp{x, x, construct("P", 0, 1)}},
	}
	for _, c := range cases {
		last := len(c.exps) - 1
		wantProg(t, "p("+c.source+").", rules(rule(c.exps, atom("p", last))))
		behind := append(slices.Clone(c.exps), z)
		wantProg(t, "p() :- "+c.source+" = z.", rules(rule(behind, atom("p"), compare("=", last, last+1))))
		wantProg(t, "p() :- !q("+c.source+", z).", rules(rule(behind, atom("p"), not("q", last, last+1))))
	}
}

func TestParseOfLiterals(t *testing.T) {
	x, one := variable("x"), term("1")
	cases := []struct {
		source string
		want   impl.Rule
	}{
		{"p().", rule(nil, atom("p"))},
		{"p(1).", rule([]impl.Exp{one}, atom("p", 0))},
		{"number(1).", rule([]impl.Exp{one}, atom("number", 0))},
		{"input().", rule(nil, atom("input"))},
		{"p():-q().", rule(nil, atom("p"), atom("q"))},
		{"p() :- type(), rel(x), !type(1).", rule([]impl.Exp{x, one}, atom("p"), atom("type"), atom("rel", 0), not("type", 1))},
		{"p(x) :- q(x), q(x).", rule([]impl.Exp{x, x, x}, atom("p", 0), atom("q", 1), atom("q", 2))},
		{"p() :- !q().", rule(nil, atom("p"), not("q"))},
		{"p() :- ! q ( 1 , x ) .", rule([]impl.Exp{one, x}, atom("p"), not("q", 0, 1))},
		{"p() :- x = 1.", rule([]impl.Exp{x, one}, atom("p"), compare("=", 0, 1))},
		{"p() :- x != 1.", rule([]impl.Exp{x, one}, atom("p"), compare("!=", 0, 1))},
		{"p() :- x < 1.", rule([]impl.Exp{x, one}, atom("p"), compare("<", 0, 1))},
		{"p() :- x <= 1.", rule([]impl.Exp{x, one}, atom("p"), compare("<=", 0, 1))},
		{"p() :- x<-1.", rule([]impl.Exp{x, term("-1")}, atom("p"), compare("<", 0, 1))},
		{"p() :- (x) = 1.", rule([]impl.Exp{x, one}, atom("p"), compare("=", 0, 1))},
		{"p() :- _ = 1.", rule([]impl.Exp{anything(), one}, atom("p"), compare("=", 0, 1))},
		{`p() :- "a" = 1.`, rule([]impl.Exp{term(`"a"`), one}, atom("p"), compare("=", 0, 1))},
		{"p() :- -1 = x.", rule([]impl.Exp{term("-1"), x}, atom("p"), compare("=", 0, 1))},
		{"p() :- P = Q(x).", rule([]impl.Exp{construct("P"), x, construct("Q", 1)}, atom("p"), compare("=", 0, 2))},
		{"p() :- type = rel.", rule([]impl.Exp{variable("type"), variable("rel")}, atom("p"), compare("=", 0, 1))},
		{"p() :- x + 1 < x * 1, q(), 1 = x.", rule([]impl.Exp{x, one, reckon(impl.ExAdd, 0, 1), x, one, reckon(impl.ExMul, 3, 4), one, x}, atom("p"), compare("<", 2, 5), atom("q"), compare("=", 6, 7))},
	}
	for _, c := range cases {
		wantProg(t, c.source, rules(c.want))
	}
	wantProg(t, "p(x).p(x):-q(1).", rules(rule([]impl.Exp{x}, atom("p", 0)), rule([]impl.Exp{x, one}, atom("p", 0), atom("q", 1))))
}
