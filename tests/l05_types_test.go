package tests

import (
	"fmt"
	"slices"
	"strings"
	"testing"

	"loop.example/g00531/impl"
)

// declarations are right, and stand ahead of the rules of most tests here.
const declarations = `type List = Nil | Cons(number, List).
type Tree = Leaf | Node(Tree, symbol, Tree) | Of(List).
rel none(). rel num(number) input. rel sym(symbol). rel list(List) output. rel tree(Tree).
rel edge(number, number). rel name(number, symbol). rel many(number, symbol, List, Tree, number, symbol) inline.
`

func parsed(t *testing.T, s string) impl.Prog {
	t.Helper()
	p, at, code := impl.Parse(s)
	if code != impl.SyOK {
		t.Fatalf("Parse(%.400q) has the code %d at %d", s, code, at)
	}
	return p
}

func wantTypes(t *testing.T, p impl.Prog, rule, code int) {
	t.Helper()
	if gotRule, gotCode := impl.CheckTypes(p); gotRule != rule || gotCode != code {
		t.Errorf("CheckTypes(%.2000s) = %d, %d, want %d, %d", impl.ProgText(p), gotRule, gotCode, rule, code)
	}
}

// wantRuleCode wants the code of a rule behind the declarations, as the only one
// of the program and with rules around it that are right.
func wantRuleCode(t *testing.T, rule string, code int) {
	t.Helper()
	at, behind := -1, -1
	if code != impl.TyOK {
		at, behind = 0, 2
	}
	wantTypes(t, parsed(t, declarations+rule), at, code)
	wantTypes(t, parsed(t, declarations+"num(1). num(x) :- edge(x, _)."+rule+"sym(\"a\")."), behind, code)
}

// wantVars wants names and their types, turn by turn.
func wantVars(t *testing.T, p impl.Prog, n int, want ...string) {
	t.Helper()
	var list []impl.VarType
	for i := 0; i < len(want); i += 2 {
		list = append(list, impl.VarType{Name: want[i], Type: want[i+1]})
	}
	if got := impl.VarTypes(p, n); !slices.Equal(got, list) {
		t.Errorf("VarTypes(%.400s, %d) = %v, want %v", impl.ProgText(p), n, got, list)
	}
}

// wantRuleVars wants a rule behind the declarations that has no fault, and the
// types of its names.
func wantRuleVars(t *testing.T, rule string, want ...string) {
	t.Helper()
	wantRuleCode(t, rule, impl.TyOK)
	wantVars(t, parsed(t, declarations+rule), 0, want...)
}

func TestProgramsWithoutAFault(t *testing.T) {
	for _, s := range []string{
		"", declarations, "rel p().", "rel p(). p().", "rel p(). p() :- p(), !p(), 1 = 1.", "type T = A.", "type T = T(T).",
		"type T = A(U). type U = B(T).",
		"rel p(T). p(A). type T = A.",
		"p(x) :- q(x). rel p(number). rel q(number).",
		"rel number(number). rel symbol(symbol). number(symbol) :- number(symbol). symbol(number) :- symbol(number).",
		"type T = A(number, symbol, T, T, number, symbol). rel p(number, symbol, T, T, number, symbol). p(a, b, c, d, e, f) :- p(e, f, A(a, b, c, d, e, f), d, a, b), p(_, _, c, _, _, _).",
	} {
		wantTypes(t, parsed(t, s), -1, impl.TyOK)
	}
	wantTypes(t, impl.Prog{}, -1, impl.TyOK)
	wantTypes(t, impl.Prog{Types: []impl.TypeDecl{}, Rels: []impl.RelDecl{}, Rules: []impl.Rule{}}, -1, impl.TyOK)
}

// unsoundProgs are not ProgSound, each by another part of it.
func unsoundProgs() map[string]impl.Prog {
	return map[string]impl.Prog{
		"a type's name":                 typeOf("t", impl.Con{Name: "A"}),
		"a type named number":           typeOf("number", impl.Con{Name: "A"}),
		"a type without constructors":   typeOf("T"),
		"a constructor's name":          typeOf("T", impl.Con{Name: "a"}),
		"an empty type":                 typeOf("T", impl.Con{Name: "A", Types: []string{""}}),
		"a type of a constructor":       typeOf("T", impl.Con{Name: "A", Types: []string{"t"}}),
		"a relation's name":             relOf("P"),
		"a type of a relation":          relOf("p", "none"),
		"a mode":                        {Rels: []impl.RelDecl{{Name: "p", Mode: 4}}},
		"too many types":                {Types: times(impl.MaxTypes+1, impl.TypeDecl{Name: "T", Cons: []impl.Con{{Name: "A"}}})},
		"too many relations":            {Rels: times(impl.MaxRels+1, impl.RelDecl{Name: "p"})},
		"too many rules":                {Rules: times(impl.MaxRules+1, rule(nil, atom("p")))},
		"a rule of nothing":             rules(impl.Rule{}),
		"a rule whose head is negated":  rules(rule(nil, not("p"))),
		"a rule with an exp too many":   rules(rule([]impl.Exp{variable("x")}, atom("p"))),
		"a rule with a kind of none":    factOf(impl.Exp{Kind: 8}),
		"a rule with a term of none":    factOf(term("01")),
		"a rule with a term like Nil":   factOf(term("Nil")),
		"a rule with a name like X":     factOf(variable("X")),
		"a rule with no place":          rules(rule([]impl.Exp{variable("x")}, atom("p", 1))),
		"a rule with a place below 0":   rules(rule([]impl.Exp{variable("x")}, atom("p", -1))),
		"a rule with a sign of none":    rules(rule([]impl.Exp{term("1"), term("1")}, atom("p"), compare("==", 0, 1))),
		"a rule with a sign and an exp": rules(rule([]impl.Exp{term("1")}, atom("p"), impl.Lit{Kind: impl.LtCmp, Name: "=", Args: []int{0}})),
	}
}

func TestTyForm(t *testing.T) {
	base := parsed(t, declarations+"num(x) :- edge(x, _). num(1).")
	for what, p := range unsoundProgs() {
		if impl.ProgSound(p) {
			t.Errorf("%s: the program is sound", what)
		}
		wantTypes(t, p, -1, impl.TyForm)
		q := impl.Prog{Types: slices.Concat(base.Types, p.Types), Rels: slices.Concat(base.Rels, p.Rels), Rules: slices.Concat(base.Rules, p.Rules)}
		wantTypes(t, q, -1, impl.TyForm)
		q = impl.Prog{Types: slices.Concat(p.Types, base.Types), Rels: slices.Concat(p.Rels, base.Rels), Rules: slices.Concat(p.Rules, base.Rules)}
		wantTypes(t, q, -1, impl.TyForm)
		wantVars(t, q, 0)
		wantVars(t, q, len(q.Rules)-1)
	}
}

// typeFaults are declarations with the code TyType, in each of its three ways;
// relFaults with TyRel. They are so ahead of, behind and without declarations.
func typeFaults() []string {
	return []string{
		"type T = A. type T = B.", "type T = A. type U = B. type T = C.", "type T = A | B(T). type T = D(number).", "type T = A. type T = A.",
		"type T = A | A.", "type T = A | B | A(number).", "type T = A(T, number) | A(T, number).", "type T = A. type U = A.", "type T = A | B. type U = D(T, U) | B(symbol).", "type T = T. type U = T.",
		"type T = A(V).", "type T = A(number, symbol, T, V).", "type T = A | B(T) | D(V).", "type T = A(A).", "type T = A. type U = B(A).",
		"rel p(V).", "rel p(number, V).", "rel p(V, number) input.", "type T = A. rel p(A).", "type T = A. rel q(T). rel p(T, V) output.",
	}
}

func relFaults() []string {
	return []string{
		"rel p(). rel p().", "rel p(number). rel p(symbol).", "rel p(number) input. rel p(number) output.", "rel p(). rel p(number, number).",
		"rel p(). rel q(). rel r(). rel q().", "type T = A. rel p(T). rel p(T).", "rel p() inline. rel q(). rel p() inline.",
	}
}

func TestTyTypeAndTyRel(t *testing.T) {
	for _, group := range []struct {
		code   int
		faults []string
	}{{impl.TyType, typeFaults()}, {impl.TyRel, relFaults()}} {
		for _, s := range group.faults {
			for _, whole := range []string{s, s + declarations, declarations + s, declarations + "num(1). num(x) :- num(x)." + s} {
				p := parsed(t, whole)
				wantTypes(t, p, -1, group.code)
				wantVars(t, p, 0)
			}
		}
	}
	wantTypes(t, parsed(t, declarations+"rel num(number)."), -1, impl.TyRel)
	wantTypes(t, parsed(t, declarations+"type List = Other."), -1, impl.TyType)
	wantTypes(t, parsed(t, declarations+"type Other = Leaf."), -1, impl.TyType)
}

// TestNamesOfTwoSortsMayBeAlike has a type and a constructor, a relation and a
// variable of one name.
func TestNamesOfTwoSortsMayBeAlike(t *testing.T) {
	p := parsed(t, "type A = A | B(A). type B = C(B, A). rel x(A). rel y(B). x(x) :- y(C(y, x)), y(y), !x(B(x)).")
	wantTypes(t, p, -1, impl.TyOK)
	wantVars(t, p, 0, "x", "A", "y", "B")
}

func TestTyName(t *testing.T) {
	for _, s := range []string{
		"other(1).", "other().", "other(x) :- num(x).", "num(x) :- other(x).", "num(x) :- num(x), !other(x).", "num(1) :- none(), !other().",
		"num(x) :- num(x), other(x), num(x).", "other(other) :- num(other).", "nums(1).", "nu(1).", "number(1).", "nums(x) :- num(x).",
	} {
		wantRuleCode(t, s, impl.TyName)
	}
	wantTypes(t, parsed(t, "p()."), 0, impl.TyName)
	wantTypes(t, parsed(t, "p(x) :- x = 1."), 0, impl.TyName)
}

func TestTyArity(t *testing.T) {
	for _, s := range []string{
		"num().", "num(1, 2).", "none(1).", "edge(1).", "edge(1, 2, 3).", "many(1).", "many(1, \"a\", Nil, Leaf, 2).",
		"none() :- num().", "none() :- num(1, 1).", "none() :- !num().", "none() :- !edge(1, 2, 3).", "none() :- none(), none(), none(1).", "num(x) :- num(x), !none(x).",
	} {
		wantRuleCode(t, s, impl.TyArity)
	}
}

func TestTyCon(t *testing.T) {
	for _, s := range []string{
		"list(Foo).", "list(List).", "list(Foo(1)).", "list(Cons(1, Foo)).", "tree(Of(Cons(1, Foo(Nil)))).", "none() :- x = Foo, list(x).", "none() :- Foo = Foo.", "none() :- 1 < Foo.",
		"num(1 + Foo).", "num(Foo * 2).", "none() :- !tree(Foo).", "list(Ni).", "list(Nils).", "list(x) :- list(Cons(_, x)), Bar != x.",
	} {
		wantRuleCode(t, s, impl.TyCon)
	}
	for _, s := range []string{
		"list(Cons).", "list(Cons(1)).", "list(Cons(1, Nil, Nil)).", "list(Nil(1)).", "list(Nil(Nil)).", "tree(Node(Leaf, \"a\")).", "tree(Node).", "tree(Of).",
		"list(Cons(1, Cons(1))).", "none() :- Cons = Cons.", "none() :- list(Cons(_)).", "none() :- !list(Nil(_)).", "num(Cons(1) + 1).", "none() :- Leaf(x) != x, num(x).",
	} {
		wantRuleCode(t, s, impl.TyCon)
	}
}

func TestTyOpen(t *testing.T) {
	for _, s := range []string{
		"none() :- x = y.", "none() :- x = x.", "none() :- x != y.", "none() :- x != x.", "none() :- x = _.", "none() :- _ = x.", "none() :- _ != x.",
		"none() :- x = y, y = z, z = x.", "none() :- x = y, y = z, z != _.", "num(z) :- x = y, num(z).", "num(z) :- num(z), x = y.", "num(x) :- x = 1, y = z.", "num(x) :- num(x), y = _.",
		"none() :- x = y, num(a), a = b, z = y.", "none() :- x = _, num(_), y = _, _ = 1.",
	} {
		wantRuleCode(t, s, impl.TyOpen)
	}
}

// TestAnAnyMayHaveNoType: TyOpen is said of an ExVar alone.
func TestAnAnyMayHaveNoType(t *testing.T) {
	for _, s := range []string{"none() :- _ = _.", "none() :- _ != _.", "none() :- _ = _, _ = _, _ != _.", "none() :- _ = 1, _ = _."} {
		wantRuleVars(t, s)
	}
	wantRuleVars(t, "num(x) :- num(x), _ = _.", "x", "number")
}

// literalFaults are literals of a body by the code that each of them has. No two
// of those with TyOpen have a name in common.
func literalFaults() map[int][]string {
	return map[int][]string{
		impl.TyName:  {"other(1)", "!other(1)", "other()"},
		impl.TyArity: {"num(1, 1)", "!num()", "none(1)"},
		impl.TyCon:   {"list(Foo)", "Nil(1) = Nil(1)", "num(Cons(1))"},
		impl.TyVar:   {"num(\"a\")", "1 = \"a\"", "list(Cons(Nil, Nil))"},
		impl.TyOpen:  {"o1 = o2", "o3 != _", "o4 = o4"},
		impl.TyOK:    {"num(1)", "!sym(_)", "_ = Nil"},
	}
}

// TestTheFirstOfTwoCodes puts two literals into one rule, and into two, either of
// them first.
func TestTheFirstOfTwoCodes(t *testing.T) {
	faults := literalFaults()
	for a := range faults {
		for b := range faults {
			for i, first := range faults[a] {
				second := faults[b][(i+1)%len(faults[b])]
				least, at := min(a, b), 0
				if least == impl.TyOK {
					least = max(a, b)
				}
				if least == impl.TyOK {
					at = -1
				}
				wantTypes(t, parsed(t, declarations+"none() :- "+first+", "+second+"."), at, least)
				code, at := a, 0
				if a == impl.TyOK {
					code, at = b, 1
				}
				if code == impl.TyOK {
					at = -1
				}
				wantTypes(t, parsed(t, declarations+"none() :- "+first+". none() :- "+second+"."), at, code)
			}
		}
	}
}

// TestAFaultOfTheHead looks at codes of the head beside those of the body.
func TestAFaultOfTheHead(t *testing.T) {
	heads := map[int]string{impl.TyName: "other(1)", impl.TyArity: "num(1, 1)", impl.TyCon: "list(Foo)", impl.TyVar: "num(Nil)"}
	for a, head := range heads {
		wantRuleCode(t, head+".", a)
		for b, list := range literalFaults() {
			code := a
			if b != impl.TyOK {
				code = min(a, b)
			}
			for _, lit := range list {
				wantRuleCode(t, head+" :- "+lit+".", code)
			}
		}
	}
}

func TestFaultsOfDeclarationsComeFirst(t *testing.T) {
	const rels = "rel u(). rel v(symbol). rel u()."
	for _, types := range typeFaults() {
		wantTypes(t, parsed(t, types+rels), -1, impl.TyType)
		wantTypes(t, parsed(t, rels+types), -1, impl.TyType)
		for _, list := range literalFaults() {
			s := "rel z(). z() :- " + list[0] + "."
			wantTypes(t, parsed(t, s+types), -1, impl.TyType)
			wantTypes(t, parsed(t, types+s), -1, impl.TyType)
			wantTypes(t, parsed(t, s+rels), -1, impl.TyRel)
			wantTypes(t, parsed(t, rels+s), -1, impl.TyRel)
			wantTypes(t, parsed(t, rels+s+types), -1, impl.TyType)
		}
	}
	p := parsed(t, "type T = A | A. rel p(). rel p(). q(x) :- x = y.")
	p.Rules[0].Exps[0].Text = "1"
	wantTypes(t, p, -1, impl.TyForm)
}

// TestTheNumberOfTheRule has the fault at each place of a program of MaxRules.
func TestTheNumberOfTheRule(t *testing.T) {
	for code, list := range literalFaults() {
		for at := range impl.MaxRules {
			rest := strings.Repeat("none().", impl.MaxRules-at-1)
			p := parsed(t, declarations+strings.Repeat("none().", at)+"none() :- "+list[0]+"."+rest)
			if code == impl.TyOK {
				wantTypes(t, p, -1, code)
			} else {
				wantTypes(t, p, at, code)
			}
		}
	}
}

func TestVastProgramsAreNotSound(t *testing.T) {
	for _, p := range []impl.Prog{
		{Types: make([]impl.TypeDecl, 1000000)}, {Rels: make([]impl.RelDecl, 1000000)}, {Rules: make([]impl.Rule, 1000000)},
		rules(rule(make([]impl.Exp, 1000000), atom("p"))), rules(impl.Rule{Head: atom("p"), Body: make([]impl.Lit, 1000000)}),
		relOf(strings.Repeat("p", 1<<24)),
	} {
		if rule, code := impl.CheckTypes(p); rule != -1 || code != impl.TyForm {
			t.Errorf("CheckTypes = %d, %d", rule, code)
		}
		if impl.VarTypes(p, 0) != nil || impl.TermHas(p, "1", "number") {
			t.Errorf("there is a type in a program that is not sound")
		}
	}
}

// TestARuleOfManyEquations has as many exps as a rule can have, in one row.
func TestARuleOfManyEquations(t *testing.T) {
	row := ""
	want := []string{}
	for i := range impl.MaxBody - 1 {
		row += fmt.Sprintf("v%d = v%d, ", i, i+1)
		want = append(want, fmt.Sprintf("v%d", i), "Tree")
	}
	want = append(want, fmt.Sprintf("v%d", impl.MaxBody-1), "Tree")
	wantRuleVars(t, "none() :- "+row+fmt.Sprintf("tree(v%d).", impl.MaxBody-1), want...)
	wantRuleVars(t, "none() :- "+row+"tree(v0).", want...)
	wantRuleVars(t, "none() :- "+row+"tree(v5).", want...)
	wantRuleVars(t, "tree(v0) :- "+strings.TrimSuffix(row, ", ")+".", want...)
	wantRuleCode(t, "sym(v0) :- "+row+"tree(v11).", impl.TyVar)
	wantRuleCode(t, "none() :- "+row+"none().", impl.TyOpen)
}
