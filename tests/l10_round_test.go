package tests

import (
	"fmt"
	"math"
	"slices"
	"strings"
	"testing"

	"loop.example/g00531/impl"
)

func sameDb(a, b impl.Db) bool { return slices.EqualFunc(a.Rels, b.Rels, sameRel) }

// factWords has the facts of a Db as dbOf reads them.
func factWords(p impl.Prog, d impl.Db) string {
	var list []string
	for i, r := range d.Rels {
		for _, x := range r.Rows {
			list = append(list, p.Rels[i].Name+"("+strings.Join(x.T, ",")+")")
		}
	}
	return strings.Join(list, " ")
}

// wantRoundOf wants a Db of a Round, or nothing beside a code that is not PfOK.
func wantRoundOf(t *testing.T, p impl.Prog, d impl.Db, s int, want impl.Db, code int) {
	t.Helper()
	e, got := impl.Round(p, d, s)
	if got != code || !sameDb(e, want) {
		t.Errorf("Round of %s over %q at %d is %q, %d, want %q, %d", rulesText(p), factWords(p, d), s, factWords(p, e), got, factWords(p, want), code)
	}
	if code == impl.PfOK {
		wantDbOk(t, "what a Round gives", p, e, true)
	}
}

// rulesText is short, as all programs of a test may have the same declarations.
func rulesText(p impl.Prog) string {
	var list []string
	for _, r := range p.Rules {
		list = append(list, impl.RuleText(r))
	}
	return strings.Join(list, " ")
}

// wantRound wants, beside the facts, these more.
func wantRound(t *testing.T, rules, facts string, s int, more string) {
	t.Helper()
	p := parsed(t, declarations+rules)
	wantRoundOf(t, p, dbOf(t, p, facts), s, dbOf(t, p, facts+" "+more), impl.PfOK)
}

func wantRoundCode(t *testing.T, rules, facts string, s, code int) {
	t.Helper()
	p := parsed(t, declarations+rules)
	d := dbOf(t, p, facts)
	wantDbOk(t, rules, p, d, true)
	wantRoundOf(t, p, d, s, impl.Db{}, code)
}

func TestARoundGoesByWhatWasThere(t *testing.T) {
	wantRound(t, "num(x) :- edge(x, _).", "edge(1,2) edge(3,4)", 0, "num(1) num(3)")
	wantRound(t, "num(x) :- edge(x, _).", "edge(1,2) edge(3,4) num(3) num(7)", 0, "num(1)")
	wantRound(t, "num(x) :- edge(x, _).", "edge(1,2) num(1)", 0, "")
	wantRound(t, "num(x) :- edge(x, _).", "num(1)", 0, "")
	// A row that one rule gives is not there for another one, nor for itself.
	for _, rules := range []string{"num(x) :- edge(x, _). sym(\"a\") :- num(_). list(Cons(x, Nil)) :- num(x).", "list(Cons(x, Nil)) :- num(x). sym(\"a\") :- num(_). num(x) :- edge(x, _)."} {
		wantRound(t, rules, "edge(1,2)", 0, "num(1)")
		wantRound(t, rules, "edge(1,2) num(5)", 0, "num(1) sym(\"a\") list(Cons(5,Nil))")
	}
	wantRound(t, "edge(x, z) :- edge(x, y), edge(y, z).", "edge(1,2) edge(2,3) edge(3,4) edge(4,5)", 0, "edge(1,3) edge(2,4) edge(3,5)")
	wantRound(t, "edge(x, z) :- edge(x, y), edge(y, z).", "edge(1,2) edge(2,3) edge(3,4) edge(4,5) edge(1,3)", 0, "edge(1,4) edge(2,4) edge(3,5)")
	wantRound(t, "num(0). num(x + 1) :- num(x).", "", 0, "num(0)")
	wantRound(t, "num(0). num(x + 1) :- num(x).", "num(0) num(7)", 0, "num(1) num(8)")
	wantRound(t, "none() :- num(_). sym(\"b\") :- none().", "num(1) num(2)", 0, "none()")
}

func TestARoundOfTwoRulesWithOneHead(t *testing.T) {
	both := "num(x) :- edge(x, _). num(y) :- edge(_, y)."
	wantRound(t, both, "edge(1,2) edge(10,9)", 0, "num(1) num(2) num(9) num(10)")
	wantRound(t, both, "edge(1,2) edge(2,1)", 0, "num(1) num(2)")
	wantRound(t, both, "edge(1,2) edge(2,5) num(2) num(3)", 0, "num(1) num(5)")
	wantRound(t, both+" sym(\"a\") :- edge(1, _). num(x) :- name(x, _). sym(\"b\") :- edge(_, 2).", `edge(1,2) name(-4,"")`, 0, `num(1) num(2) num(-4) sym("a") sym("b")`)
	wantRound(t, "num(1). num(1). num(x) :- x = 1.", "", 0, "num(1)")
}

func TestARoundOfRulesWithoutABody(t *testing.T) {
	wantRound(t, "num(1).", "", 0, "num(1)")
	wantRound(t, "num(1).", "num(1)", 0, "")
	wantRound(t, "num(2). none(). num(1 - 3). list(Cons(1, Nil)).", "", 0, "num(2) num(-2) none() list(Cons(1,Nil))")
	wantRound(t, "none().", "none()", 0, "")
	wantRound(t, "num(x) :- x = 1 + 1. num(7) :- 1 = 2.", "", 0, "num(2)")
	wantRound(t, "many(1, \"a\", Nil, Leaf, 2, \"\").", "", 0, `many(1,"a",Nil,Leaf,2,"")`)
}

// TestARoundOfAnotherStratum: num is in stratum 0, name in 1, sym in 2, and the two
// others are in 0 and in 1.
func TestARoundOfAnotherStratum(t *testing.T) {
	rules := "sym(s) :- name(1, s), !name(2, s). name(x, \"a\") :- edge(x, _), !num(x). num(y) :- edge(_, y). list(Nil) :- name(_, _). tree(Leaf) :- num(_)."
	wantStrata(t, parsed(t, declarations+rules), 0, 0, 2, 1, 0, 0, 1, 0)
	facts := `edge(1,2) edge(2,3) num(5) name(1,"b")`
	for s, more := range map[int]string{
		0: "num(2) num(3) tree(Leaf)", 1: `name(1,"a") name(2,"a") list(Nil)`, 2: `sym("b")`,
		-1: "", -2: "", 3: "", 4: "", 20: "", math.MaxInt: "", math.MinInt: "",
	} {
		wantRound(t, rules, facts, s, more)
	}
	p := parsed(t, declarations+rules)
	d := dbOf(t, p, facts+" num(2) num(3)")
	wantRoundOf(t, p, d, 1, dbOf(t, p, facts+` num(2) num(3) name(1,"a") list(Nil)`), impl.PfOK)
}

func TestARoundWithoutRules(t *testing.T) {
	for _, s := range []int{-1, 0, 1, 7} {
		wantRoundOf(t, impl.Prog{}, impl.Db{}, s, impl.Db{}, impl.PfOK)
		wantRoundOf(t, impl.Prog{}, impl.Db{Rels: []impl.Rel{}}, s, impl.Db{}, impl.PfOK)
		wantRoundOf(t, parsed(t, "type T = A."), impl.Db{}, s, impl.Db{}, impl.PfOK)
		wantRound(t, "", facts, s, "")
		wantRound(t, "", "", s, "")
	}
}

// Rules that are FrOver where an edge begins above 0, FrMany where there are 21 edges
// or more, and FrOK.
const (
	overRule = "num(x + 1000000) :- edge(x, _). "
	manyRule = "none() :- edge(_, _), edge(_, _). "
	okRule   = "num(x) :- edge(x, _). "
)

// edges21 are as many as have more than MaxRows pairs.
func edges21() string {
	s := ""
	for i := range 21 {
		s += fmt.Sprintf(" edge(1,%d)", i)
	}
	return s
}

func TestTheFirstRuleOfARoundTells(t *testing.T) {
	edges := edges21()
	for rules, code := range map[string]int{
		overRule: impl.PfOver, manyRule: impl.PfMany, overRule + manyRule: impl.PfOver, manyRule + overRule: impl.PfMany,
		okRule + overRule + manyRule: impl.PfOver, okRule + manyRule + overRule: impl.PfMany, okRule + manyRule + okRule + overRule + okRule: impl.PfMany, overRule + okRule + manyRule: impl.PfOver,
		// Of one relation, and of relations that are declared the other way round.
		"num(x) :- edge(_, _), edge(x, _). " + overRule: impl.PfMany, overRule + "num(x) :- edge(_, _), edge(x, _).": impl.PfOver, "none() :- edge(x, _), x + 1000000 < 0. " + manyRule: impl.PfOver, manyRule + "none() :- edge(x, _), x + 1000000 < 0.": impl.PfMany,
		"list(Nil) :- edge(_, _), edge(_, _). " + overRule: impl.PfMany, "name(x + 1000000, \"a\") :- edge(x, _). " + manyRule: impl.PfOver, "tree(Leaf). sym(\"a\") :- edge(_, _). name(x, \"\") :- edge(_, _), edge(x, _). num(x + 1000000) :- edge(x, _).": impl.PfMany,
	} {
		wantRoundCode(t, rules, edges, 0, code)
	}
	// With few edges that do not lead so far all is well.
	wantRound(t, manyRule+okRule+overRule, "edge(-1,2)", 0, "none() num(-1) num(999999)")
}

func TestRulesOfOtherStrataDoNotTell(t *testing.T) {
	edges := edges21()
	ahead, behind := "sym(\"a\") :- !none(). ", "name(x, \"a\") :- edge(x, _), !sym(\"b\"). "
	for rules, codes := range map[string][]int{
		ahead + overRule: {impl.PfOver, impl.PfOK},
		manyRule + ahead: {impl.PfMany, impl.PfOK},
		okRule + "sym(s) :- name(x + 1000000, s), edge(x, _), !none(). ":         {impl.PfOK, impl.PfOK}, // there is no name
		"sym(\"a\") :- edge(x, _), x + 1000000 < 0, !none(). " + okRule:          {impl.PfOK, impl.PfOver},
		"sym(\"a\") :- edge(_, _), edge(_, _), !none(). " + behind:               {impl.PfOK, impl.PfMany, impl.PfOK},
		ahead + "name(x + 1000000, \"a\") :- edge(x, _), !sym(\"b\"). " + okRule: {impl.PfOK, impl.PfOK, impl.PfOver},
		overRule + "sym(\"a\") :- edge(_, _), edge(_, _), !none(). ":             {impl.PfOver, impl.PfMany},
	} {
		p := parsed(t, declarations+rules)
		for s := -1; s <= len(codes); s++ {
			want := impl.PfOK
			if s >= 0 && s < len(codes) {
				want = codes[s]
			}
			if _, code := impl.Round(p, dbOf(t, p, edges), s); code != want {
				t.Errorf("Round of %s at %d has the code %d, want %d", rules, s, code, want)
			}
			if want != impl.PfOK {
				wantRoundCode(t, rules, edges, s, want)
			}
		}
	}
}

// TestARoundOfAsManyRowsAsMayBe has n numbers, from 0 on, and rules that give others.
func TestARoundOfAsManyRowsAsMayBe(t *testing.T) {
	for _, list := range []struct {
		rules string
		more  int // how many rows it gives that are not there
	}{
		{"num(-1).", 1}, {"num(-1). num(-2).", 2}, {"num(-1). num(-1).", 1}, {"num(-1). num(5). num(6 - 7).", 1}, {"num(x) :- num(x).", 0}, {"num(0 - x) :- num(x), x <= 3.", 3},
		{"num(x) :- edge(x, _). num(y) :- edge(_, y).", 4}, {"num(x) :- edge(x, _). sym(\"a\") :- edge(_, _). num(y) :- edge(y, _).", 2}, {"sym(\"a\"). num(-3) :- none(). num(-4) :- edge(_, _).", 1},
	} {
		for n := impl.MaxRows - 5; n <= impl.MaxRows; n++ {
			p := parsed(t, declarations+list.rules)
			d := dbOf(t, p, "edge(-1,-2) edge(-3,-4)")
			d.Rels[placeOf(p, "num")] = numbersTo(n)
			e, code := impl.Round(p, d, 0)
			if n+list.more > impl.MaxRows {
				if code != impl.PfMany || len(e.Rels) > 0 {
					t.Errorf("Round of %s over %d numbers is %v, %d", list.rules, n, e, code)
				}
				continue
			}
			if code != impl.PfOK || len(e.Rels) != len(d.Rels) || len(e.Rels[placeOf(p, "num")].Rows) != n+list.more || !impl.DbOk(p, e) {
				t.Errorf("Round of %s over %d numbers is %v, %d", list.rules, n, e, code)
			}
		}
	}
}

// TestTooManyRowsAreToldBehindAllRules: the first rules would give too many rows, but
// a rule that is FrOver stands behind them.
func TestTooManyRowsAreToldBehindAllRules(t *testing.T) {
	for rules, code := range map[string]int{
		"num(-1).": impl.PfMany, "num(-1). name(x + 1000000, \"a\") :- edge(x, _).": impl.PfOver, "name(x + 1000000, \"a\") :- edge(x, _). num(-1).": impl.PfOver, "num(-1). num(x + 1000000) :- edge(x, _).": impl.PfOver,
		"num(-1). sym(\"a\") :- edge(x, _), x + 1000000 = 7, !none().": impl.PfMany, "num(-1). sym(\"a\").": impl.PfMany, "tree(Leaf). num(-1). list(Nil).": impl.PfMany,
	} {
		p := parsed(t, declarations+rules)
		d := dbOf(t, p, "edge(1,2)")
		d.Rels[placeOf(p, "num")] = numbersTo(impl.MaxRows)
		wantRoundOf(t, p, d, 0, impl.Db{}, code)
	}
}

// wantFormlessClimb wants what the four functions say of a d that is not DbOk.
func wantFormlessClimb(t *testing.T, what string, p impl.Prog, d impl.Db) {
	t.Helper()
	wantDbOk(t, what, p, d, false)
	for _, s := range []int{-1, 0, 1} {
		wantRoundOf(t, p, d, s, impl.Db{}, impl.PfForm)
	}
	if e, rounds, code := impl.Perfect(p, d); len(e.Rels) > 0 || rounds != 0 || code != impl.PfForm {
		t.Errorf("%s: Perfect is %v, %d, %d", what, e, rounds, code)
	}
	if impl.Holds(p, d) {
		t.Errorf("%s: it Holds", what)
	}
	if e := impl.Outputs(p, d); len(e.Rels) > 0 {
		t.Errorf("%s: Outputs is %v", what, e)
	}
}

func TestClimbsOverADbThatIsNotOk(t *testing.T) {
	for _, rules := range []string{"", "num(1).", "num(x) :- edge(x, _). sym(\"a\") :- !num(9)."} {
		p := parsed(t, declarations+rules)
		for name, list := range wrongRels() {
			for i, r := range list {
				d := dbOf(t, p, facts)
				d.Rels[placeOf(p, name)] = r
				wantFormlessClimb(t, fmt.Sprint(i, " of ", name), p, d)
			}
		}
		d := dbOf(t, p, facts)
		for _, rels := range [][]impl.Rel{nil, {}, d.Rels[:1], d.Rels[1:], append(slices.Clone(d.Rels), rel(0))} {
			wantFormlessClimb(t, fmt.Sprint(len(rels), " relations"), p, impl.Db{Rels: rels})
		}
		for _, fact := range []string{`num("a")`, "list(Leaf)", "list(Cons(Nil,1))", `many(1,"a",Leaf,Nil,2,"b")`} {
			wantFormlessClimb(t, fact, p, dbOf(t, p, facts+" "+fact))
		}
	}
	for what, p := range notReady(t) {
		wantFormlessClimb(t, what, p, dbOf(t, p, ""))
		wantFormlessClimb(t, what, p, impl.Db{})
	}
	for what, p := range unsoundProgs() {
		wantFormlessClimb(t, what, p, impl.Db{})
	}
	wantFormlessClimb(t, "a relation that is not declared", impl.Prog{}, impl.Db{Rels: []impl.Rel{rel(0)}})
}
