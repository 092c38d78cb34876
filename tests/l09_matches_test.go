package tests

import (
	"slices"
	"strings"
	"testing"

	"loop.example/g00531/impl"
)

// matchTexts has each Match as words of a name, `=` and a value.
func matchTexts(list []impl.Match) []string {
	var texts []string
	for _, m := range list {
		var pairs []string
		for i, name := range m.Names {
			val := "?"
			if i < len(m.Vals) {
				val = m.Vals[i]
			}
			pairs = append(pairs, name+"="+val)
		}
		if len(m.Vals) > len(m.Names) {
			pairs = append(pairs, strings.Join(m.Vals, " "))
		}
		texts = append(texts, strings.Join(pairs, " "))
	}
	return texts
}

func wantMatchesAt(t *testing.T, p impl.Prog, n int, d impl.Db, want ...string) {
	t.Helper()
	list, code := impl.Matches(p, n, d)
	if got := matchTexts(list); code != impl.FrOK || !slices.Equal(got, want) {
		t.Errorf("Matches of %s = %q, %d, want %q", impl.RuleText(p.Rules[n]), got, code, want)
	}
}

// wantMatches has the rule as the only one; the matches that are wanted stand
// with `; ` between them.
func wantMatches(t *testing.T, rule, facts, want string) {
	t.Helper()
	p := parsed(t, declarations+rule)
	d := dbOf(t, p, facts)
	wantDbOk(t, rule, p, d, true)
	if want == "none" {
		wantMatchesAt(t, p, 0, d)
		return
	}
	wantMatchesAt(t, p, 0, d, strings.Split(want, "; ")...)
}

// wantCode wants a code that is not FrOK, and nothing with it, of Matches and of
// Fire.
func wantCode(t *testing.T, p impl.Prog, n int, d impl.Db, want int) {
	t.Helper()
	if list, code := impl.Matches(p, n, d); len(list) > 0 || code != want {
		t.Errorf("Matches of %s = %d matches, %d, want %d", impl.RuleText(p.Rules[n]), len(list), code, want)
	}
	if r, code := impl.Fire(p, n, d); !isNothing(r) || code != want {
		t.Errorf("Fire of %s = %d rows, %d, want %d", impl.RuleText(p.Rules[n]), len(r.Rows), code, want)
	}
}

func wantOver(t *testing.T, rule, facts string) {
	t.Helper()
	p := parsed(t, declarations+rule)
	d := dbOf(t, p, facts)
	wantDbOk(t, rule, p, d, true)
	wantCode(t, p, 0, d, impl.FrOver)
}

func TestMatchesOfRulesWithoutRows(t *testing.T) {
	wantMatches(t, "none().", "", "")
	wantMatches(t, "none().", "none() num(1)", "")
	wantMatches(t, "num(1 + 2).", "", "")
	wantMatches(t, "list(Cons(1, Nil)).", "list(Nil)", "")
	wantMatches(t, "num(x) :- x = 1 + 2.", "", "x=3")
	wantMatches(t, "none() :- 1 = 1, 1 + 1 = 2, Nil = Nil, 1 < 2, 2 <= 2, \"a\" != \"b\".", "", "")
	wantMatches(t, "none() :- !num(1).", "num(2)", "")
	wantMatches(t, "none() :- !num(1).", "num(1)", "none")
	wantMatches(t, "none() :- 1 = 2.", "", "none")
	wantMatches(t, "num(x) :- num(x).", "edge(1,2)", "none")
	wantMatches(t, "none() :- num(_), edge(_, _).", "num(1)", "none")
}

// TestMatchesAreInOrder: the rows of a relation in their order, those for the last
// literal changing first; names by the place where they first stand in Exps.
func TestMatchesAreInOrder(t *testing.T) {
	wantMatches(t, "num(x) :- num(x).", "num(10) num(9) num(-1)", "x=-1; x=9; x=10")
	wantMatches(t, "edge(x, y) :- num(x), num(y).", "num(1) num(2)", "x=1 y=1; x=1 y=2; x=2 y=1; x=2 y=2")
	wantMatches(t, "edge(y, x) :- num(x), num(y).", "num(1) num(2)", "y=1 x=1; y=2 x=1; y=1 x=2; y=2 x=2")
	wantMatches(t, "none() :- num(x), sym(y), num(z).", `num(1) num(2) sym("a") sym("b")`, `x=1 y="a" z=1; x=1 y="a" z=2; x=1 y="b" z=1; x=1 y="b" z=2; x=2 y="a" z=1; x=2 y="a" z=2; x=2 y="b" z=1; x=2 y="b" z=2`)
	wantMatches(t, "none() :- sym(y), !list(Nil), num(x), y != \"c\".", `num(1) num(2) sym("a") sym("b") sym("c")`, `y="a" x=1; y="a" x=2; y="b" x=1; y="b" x=2`)
	wantMatches(t, "edge(x, z) :- edge(x, y), edge(y, z).", "edge(1,2) edge(1,3) edge(2,1) edge(2,3) edge(3,4)", "x=1 z=1 y=2; x=1 z=3 y=2; x=1 z=4 y=3; x=2 z=2 y=1; x=2 z=3 y=1; x=2 z=4 y=3")
	// The same values come once for each row.
	wantMatches(t, "num(x) :- edge(x, _).", "edge(1,2) edge(1,3) edge(2,1)", "x=1; x=1; x=2")
	wantMatches(t, "none() :- edge(_, _), none().", "edge(1,2) edge(1,3) none()", "; ")
	// Names of the head come first, those of a sum where they stand.
	wantMatches(t, "num(b + a) :- edge(a, c), d = c, num(b).", "edge(1,2) num(3)", "b=3 a=1 c=2 d=2")
	wantMatches(t, "list(Cons(b, c)) :- list(c), name(b, a), name(_, d).", `list(Nil) name(1,"a") name(2,"b")`, `b=1 c=Nil a="a" d="a"; b=1 c=Nil a="a" d="b"; b=2 c=Nil a="b" d="a"; b=2 c=Nil a="b" d="b"`)
}

func TestNamesThatStandTwice(t *testing.T) {
	wantMatches(t, "num(x) :- edge(x, x).", "edge(1,1) edge(1,2) edge(2,1) edge(3,3)", "x=1; x=3")
	wantMatches(t, "num(x) :- edge(x, y), edge(y, x).", "edge(1,1) edge(1,2) edge(2,1) edge(2,3)", "x=1 y=1; x=1 y=2; x=2 y=1")
	wantMatches(t, "num(x) :- num(x), num(x).", "num(1) num(2)", "x=1; x=2")
	wantMatches(t, "num(x) :- list(Cons(x, Cons(x, l))), list(Cons(x, l)).", "list(Cons(1,Cons(1,Nil))) list(Cons(1,Nil)) list(Cons(2,Cons(1,Nil))) list(Cons(2,Cons(2,Nil)))", "x=1 l=Nil")
	wantMatches(t, "tree(x) :- tree(Node(x, s, x)).", `tree(Node(Leaf,"a",Leaf)) tree(Node(Leaf,"a",Of(Nil))) tree(Node(Of(Nil),"b",Of(Nil)))`, `x=Leaf s="a"; x=Of(Nil) s="b"`)
	wantMatches(t, "num(x) :- edge(x, _), many(x, s, _, _, _, s).", `edge(1,1) edge(2,1) many(1,"a",Nil,Leaf,1,"a") many(2,"a",Nil,Leaf,1,"b") many(2,"c",Nil,Leaf,1,"c")`, `x=1 s="a"; x=2 s="c"`)
	// A name in one literal is that of another rule, too.
	p := parsed(t, declarations+"num(x) :- edge(x, _). num(x) :- edge(_, x).")
	d := dbOf(t, p, "edge(1,2)")
	wantMatchesAt(t, p, 0, d, "x=1")
	wantMatchesAt(t, p, 1, d, "x=2")
}

func TestTermsAndAnyInLiterals(t *testing.T) {
	wantMatches(t, "num(x) :- edge(1, x).", "edge(1,2) edge(2,3) edge(1,-1) edge(10,4)", "x=-1; x=2")
	wantMatches(t, "num(x) :- edge(x, -3).", "edge(1,3) edge(2,-3)", "x=2")
	wantMatches(t, "num(x) :- edge(x, -0).", "edge(1,3) edge(2,0)", "x=2")
	wantMatches(t, "num(x) :- name(x, \"1\").", `name(1,"1") name(2,"") name(3,"11")`, "x=1")
	wantMatches(t, "num(x) :- name(x, \"\").", `name(1,"1") name(2,"")`, "x=2")
	wantMatches(t, "none() :- num(5).", "num(4) num(5) num(6)", "")
	wantMatches(t, "none() :- num(5).", "num(4) num(6)", "none")
	wantMatches(t, "num(x) :- many(x, _, _, _, _, _).", facts, "x=1; x=1")
	wantMatches(t, "none() :- edge(_, _).", "edge(1,2) edge(3,4)", "; ")
	wantMatches(t, "num(x) :- list(Cons(x, _)).", "list(Nil) list(Cons(1,Nil)) list(Cons(2,Cons(3,Nil)))", "x=1; x=2")
	wantMatches(t, "none() :- list(Cons(_, Cons(_, _))).", "list(Nil) list(Cons(1,Nil)) list(Cons(2,Cons(3,Nil))) list(Cons(2,Cons(3,Cons(4,Nil))))", "; ")
}

func TestConstructorsThatAreTakenApart(t *testing.T) {
	lists := "list(Nil) list(Cons(1,Nil)) list(Cons(1,Cons(2,Nil))) list(Cons(3,Cons(2,Cons(1,Nil))))"
	wantMatches(t, "none() :- list(Nil).", lists, "")
	wantMatches(t, "list(l) :- list(l).", lists, "l=Cons(1,Cons(2,Nil)); l=Cons(1,Nil); l=Cons(3,Cons(2,Cons(1,Nil))); l=Nil")
	wantMatches(t, "list(l) :- list(Cons(x, l)).", lists, "l=Cons(2,Nil) x=1; l=Nil x=1; l=Cons(2,Cons(1,Nil)) x=3")
	wantMatches(t, "num(y) :- list(Cons(x, Cons(y, _))).", lists, "y=2 x=1; y=2 x=3")
	wantMatches(t, "num(z) :- list(Cons(x, Cons(2, Cons(z, Nil)))).", lists, "z=1 x=3")
	wantMatches(t, "num(x) :- list(Cons(x, Nil)).", lists, "x=1")
	wantMatches(t, "num(x) :- list(Cons(1, Cons(x, Nil))).", lists, "x=2")
	wantMatches(t, "num(x) :- list(Cons(2, Cons(x, Nil))).", lists, "none")
	trees := `tree(Leaf) tree(Of(Nil)) tree(Of(Cons(7,Nil))) tree(Node(Leaf,"a",Of(Cons(1,Nil)))) tree(Node(Node(Leaf,"b",Leaf),"a",Node(Of(Cons(4,Nil)),"c",Leaf)))`
	wantMatches(t, "none() :- tree(Leaf).", trees, "")
	wantMatches(t, "list(l) :- tree(Of(l)).", trees, "l=Cons(7,Nil); l=Nil")
	wantMatches(t, "num(x) :- tree(Node(_, _, Of(Cons(x, _)))).", trees, "x=1")
	wantMatches(t, "num(x) :- tree(Node(Node(a, s, a), r, Node(Of(Cons(x, l)), _, a))).", trees, `x=4 a=Leaf s="b" r="a" l=Nil`)
	wantMatches(t, "sym(s) :- tree(Node(a, s, b)), tree(a), tree(b).", trees+" tree(Of(Cons(1,Nil)))", `s="a" a=Leaf b=Of(Cons(1,Nil))`)
	// A constructor is told from others by its whole name.
	p := parsed(t, "type T = A | Ab(T) | Abc(T) | B(T, T) | C(T, T). rel t(T). t(x) :- t(Ab(x)). t(x) :- t(A), t(B(x, A)). t(A) :- t(C(A, A)).")
	d := dbOf(t, p, "t(A) t(Ab(A)) t(Abc(Ab(A))) t(Ab(Abc(A))) t(B(Ab(A),A)) t(C(Abc(A),A)) t(B(A,Ab(A)))")
	wantMatchesAt(t, p, 0, d, "x=A", "x=Abc(A)")
	wantMatchesAt(t, p, 1, d, "x=Ab(A)")
	wantMatchesAt(t, p, 2, d)
}

func TestMatchesOfAPlaceThatIsNoRule(t *testing.T) {
	p := parsed(t, declarations+"num(1). num(x) :- edge(x, _).")
	d := dbOf(t, p, facts)
	for _, n := range []int{-1, -2, 2, 3, 1 << 62, -1 << 63} {
		wantFormless(t, "no such rule", p, n, d)
		wantFormless(t, "neither rule nor Db", p, n, impl.Db{})
	}
	wantFormless(t, "no rules", impl.Prog{}, 0, impl.Db{})
	wantFormless(t, "no rules", parsed(t, declarations), 0, dbOf(t, parsed(t, declarations), facts))
	// A rule behind the end of the list is none.
	q := p
	q.Rules = p.Rules[:1]
	wantFormless(t, "behind the list", q, 1, d)
	wantMatchesAt(t, q, 0, d, "")
}
