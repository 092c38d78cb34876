package tests

import (
	"strings"
	"testing"

	"loop.example/g00531/impl"
)

// wantPerfectOf wants a Db of Perfect, or nothing beside a code that is not PfOK.
func wantPerfectOf(t *testing.T, p impl.Prog, d, want impl.Db, rounds, code int) {
	t.Helper()
	e, gotRounds, gotCode := impl.Perfect(p, d)
	if gotRounds != rounds || gotCode != code || !sameDb(e, want) {
		t.Errorf("Perfect of %s over %.2000q is %.2000q, %d, %d, want %.2000q, %d, %d", rulesText(p), factWords(p, d), factWords(p, e), gotRounds, gotCode, factWords(p, want), rounds, code)
	}
}

// wantPerfect wants, beside the facts, these more. What comes Holds and comes to no
// more, by one Round for each stratum.
func wantPerfect(t *testing.T, rules, facts, more string, rounds int) {
	t.Helper()
	p := parsed(t, declarations+rules)
	d, e := dbOf(t, p, facts), dbOf(t, p, facts+" "+more)
	wantPerfectOf(t, p, d, e, rounds, impl.PfOK)
	wantPerfectOf(t, p, e, e, strataCount(p), impl.PfOK)
	if !impl.Holds(p, e) || len(words(more)) > 0 && impl.Holds(p, d) {
		t.Errorf("of %s over %q it Holds: %v, of all that follows: %v", rules, facts, impl.Holds(p, d), impl.Holds(p, e))
	}
}

func strataCount(p impl.Prog) int {
	strata, _ := impl.Strata(p)
	count := 1
	for _, s := range strata {
		count = max(count, s+1)
	}
	return count
}

func wantPerfectCode(t *testing.T, rules, facts string, rounds, code int) {
	t.Helper()
	p := parsed(t, declarations+rules)
	d := dbOf(t, p, facts)
	wantDbOk(t, rules, p, d, true)
	wantPerfectOf(t, p, d, impl.Db{}, rounds, code)
}

func TestPerfectWithoutRules(t *testing.T) {
	wantPerfectOf(t, impl.Prog{}, impl.Db{}, impl.Db{}, 1, impl.PfOK)
	wantPerfectOf(t, impl.Prog{}, impl.Db{Rels: []impl.Rel{}}, impl.Db{}, 1, impl.PfOK)
	wantPerfectOf(t, parsed(t, "type T = A."), impl.Db{}, impl.Db{}, 1, impl.PfOK)
	wantPerfect(t, "", "", "", 1)
	wantPerfect(t, "", facts, "", 1)
	if !impl.Holds(impl.Prog{}, impl.Db{}) || len(impl.Outputs(impl.Prog{}, impl.Db{}).Rels) > 0 {
		t.Error("of a program without relations nothing is all that there is")
	}
}

// TestRoundsOfOneStratum: the Round that finds nothing new is one of them.
func TestRoundsOfOneStratum(t *testing.T) {
	wantPerfect(t, "num(1).", "", "num(1)", 2)
	wantPerfect(t, "num(1).", "num(1)", "", 1)
	wantPerfect(t, "num(x) :- edge(x, _).", "", "", 1)
	wantPerfect(t, "num(x) :- edge(x, _).", "edge(1,2) edge(3,2)", "num(1) num(3)", 2)
	wantPerfect(t, "num(x) :- edge(x, _). num(x) :- edge(_, x).", "edge(1,2) edge(3,2) num(1)", "num(2) num(3)", 2)
	wantPerfect(t, "num(x) :- num(x), edge(x, x).", "edge(1,1) num(1)", "", 1)
	// A row that comes in one Round is there for the next one.
	for _, rules := range []string{"num(x) :- edge(x, _). list(Cons(x, Nil)) :- num(x). tree(Of(l)) :- list(l).", "tree(Of(l)) :- list(l). list(Cons(x, Nil)) :- num(x). num(x) :- edge(x, _)."} {
		wantPerfect(t, rules, "edge(1,2) edge(9,2)", "num(1) num(9) list(Cons(1,Nil)) list(Cons(9,Nil)) tree(Of(Cons(1,Nil))) tree(Of(Cons(9,Nil)))", 4)
		wantPerfect(t, rules, "edge(1,2) num(5) list(Nil)", "num(1) list(Cons(1,Nil)) list(Cons(5,Nil)) tree(Of(Nil)) tree(Of(Cons(1,Nil))) tree(Of(Cons(5,Nil)))", 4)
		wantPerfect(t, rules, "list(Nil)", "tree(Of(Nil))", 2)
	}
	wantPerfect(t, "num(0). num(x + 1) :- num(x), x < 5.", "", "num(0) num(1) num(2) num(3) num(4) num(5)", 7)
	wantPerfect(t, "num(0). num(x + 1) :- num(x), x < 5.", "num(3)", "num(0) num(1) num(2) num(4) num(5)", 4)
	// What is taken apart comes to an end.
	wantPerfect(t, "list(l) :- list(Cons(_, l)).", "list(Cons(1,Cons(2,Nil))) list(Cons(3,Cons(2,Nil)))", "list(Cons(2,Nil)) list(Nil)", 3)
	wantPerfect(t, "tree(a) :- tree(Node(a, _, b)). tree(b) :- tree(Node(a, _, b)). list(l) :- tree(Of(l)).", `tree(Node(Node(Leaf,"a",Of(Nil)),"b",Leaf))`, `tree(Leaf) tree(Node(Leaf,"a",Of(Nil))) tree(Of(Nil)) list(Nil)`, 4)
	// Of a name in two rules each is its own.
	wantPerfect(t, "edge(x, y) :- num(x), num(y), x < y. num(x) :- name(x, _).", `name(1,"a") name(2,"b") name(3,"a")`, "num(1) num(2) num(3) edge(1,2) edge(1,3) edge(2,3)", 3)
}

func TestPathsThatFollow(t *testing.T) {
	// The two ways to ask for a way: by one more edge, and by two of what follows.
	steps := "name(0, \"from\"). edge(x, z) :- edge(x, y), edge(y, z)."
	wantPerfect(t, steps, "edge(1,2) edge(2,3) edge(3,4) edge(4,5) edge(5,6)", "name(0,\"from\") edge(1,3) edge(2,4) edge(3,5) edge(4,6) edge(1,4) edge(1,5) edge(2,5) edge(2,6) edge(3,6) edge(1,6)", 4)
	wantPerfect(t, steps, "edge(1,2) edge(2,1)", "name(0,\"from\") edge(1,1) edge(2,2)", 2)
	wantPerfect(t, steps, `edge(1,1) name(0,"from")`, "", 1)
	along := "num(1). num(y) :- num(x), edge(x, y)."
	wantPerfect(t, along, "edge(1,2) edge(2,3) edge(3,1) edge(3,4) edge(5,6) edge(6,5)", "num(1) num(2) num(3) num(4)", 5)
	wantPerfect(t, along, "edge(2,3) edge(3,1) edge(3,4) edge(5,6) edge(6,5)", "num(1)", 2)
	wantPerfect(t, along, "edge(1,2) num(6) edge(6,5) edge(2,5) edge(5,7)", "num(1) num(2) num(5) num(7)", 3)
	// What is new of two rules with one head is new together.
	ends := "num(x) :- edge(x, _). num(y) :- edge(_, y). list(Cons(x, Nil)) :- num(x). sym(\"a\") :- edge(_, _)."
	wantPerfect(t, ends, "edge(1,2) edge(3,2)", `num(1) num(2) num(3) sym("a") list(Cons(1,Nil)) list(Cons(2,Nil)) list(Cons(3,Nil))`, 3)
	wantPerfect(t, ends, "edge(1,2) edge(3,2) num(1) num(3)", `num(2) sym("a") list(Cons(1,Nil)) list(Cons(2,Nil)) list(Cons(3,Nil))`, 3)
	wantPerfect(t, ends, "edge(1,2) edge(3,2) num(2)", `num(1) num(3) sym("a") list(Cons(1,Nil)) list(Cons(2,Nil)) list(Cons(3,Nil))`, 3)
	// Two relations by turns.
	turns := "name(y, \"even\") :- name(x, \"odd\"), edge(x, y). name(y, \"odd\") :- name(x, \"even\"), edge(x, y)."
	wantPerfect(t, turns, `edge(1,2) edge(2,3) edge(3,1) name(1,"odd")`, `name(2,"even") name(3,"odd") name(1,"even") name(2,"odd") name(3,"even")`, 6)
	turns = "num(y) :- list(Cons(x, _)), edge(x, y). list(Cons(x, Nil)) :- num(x)."
	wantPerfect(t, turns, "edge(1,2) edge(2,3) num(1)", "list(Cons(1,Nil)) num(2) list(Cons(2,Nil)) num(3) list(Cons(3,Nil))", 6)
}

// TestRowsThatAreGivenOfWhatRulesMake: all of them are gone over in the first Round.
func TestRowsThatAreGivenOfWhatRulesMake(t *testing.T) {
	wantPerfect(t, "edge(x, z) :- edge(x, y), edge(y, z).", "edge(1,2) edge(2,3) edge(3,4) edge(1,3) edge(2,4) edge(1,4)", "", 1)
	wantPerfect(t, "edge(x, z) :- edge(x, y), edge(y, z).", "edge(1,2) edge(2,3) edge(3,4) edge(1,3)", "edge(2,4) edge(1,4)", 2)
	wantPerfect(t, "num(x + 1) :- num(x), x < 3.", "num(1) num(-7) num(10)", "num(2) num(3) num(-6) num(-5) num(-4) num(-3) num(-2) num(-1) num(0)", 8)
	wantPerfect(t, "num(5) :- edge(x, y), edge(y, z), edge(z, x).", "edge(1,2) edge(2,3) edge(3,1)", "num(5)", 2)
	// One row is new, the other one was there before, in either order.
	for _, body := range []string{"num(x), sym(s)", "sym(s), num(x)"} {
		wantPerfect(t, "num(x + 1) :- num(x), x < 3. name(x, s) :- "+body+".", `num(1) sym("a") sym("b")`, `num(2) num(3) name(1,"a") name(1,"b") name(2,"a") name(2,"b") name(3,"a") name(3,"b")`, 4)
	}
	wantPerfect(t, "num(y) :- num(x), edge(x, y), num(z), z < 2.", "num(1) edge(1,5) edge(5,6) edge(6,7)", "num(5) num(6) num(7)", 4)
}

// TestWhatIsAskedForNotBeingThereIsWhole has strata: each one has a Round that finds
// nothing new.
func TestWhatIsAskedForNotBeingThereIsWhole(t *testing.T) {
	wantPerfect(t, "sym(\"a\") :- !num(2).", "", `sym("a")`, 3)
	wantPerfect(t, "sym(\"a\") :- !num(2).", "num(2)", "", 2)
	for _, order := range []string{"num(1). num(x + 1) :- num(x), x < 4. sym(\"a\") :- !num(5). sym(\"b\") :- !num(4).", "sym(\"b\") :- !num(4). sym(\"a\") :- !num(5). num(x + 1) :- num(x), x < 4. num(1)."} {
		wantPerfect(t, order, "", `num(1) num(2) num(3) num(4) sym("a")`, 7)
		wantPerfect(t, order, "num(4)", `num(1) num(2) num(3) sym("a")`, 6)
		wantPerfect(t, order, "num(5)", `num(1) num(2) num(3) num(4)`, 6)
	}
	// Each stratum takes what is new from the ones ahead, all rows of it.
	chain := "list(Cons(x, Nil)) :- name(x, _), !sym(\"no\"). name(x, \"a\") :- edge(x, _), !num(x). num(y) :- edge(_, y). sym(s) :- name(_, s). tree(Of(l)) :- list(l), !list(Cons(2, Nil))."
	wantStrata(t, parsed(t, declarations+chain), 0, 0, 1, 2, 3, 0, 1, 0)
	wantPerfect(t, chain, "edge(1,2) edge(2,3) edge(4,5)", `num(2) num(3) num(5) name(1,"a") name(4,"a") sym("a") list(Cons(1,Nil)) list(Cons(4,Nil)) tree(Of(Cons(1,Nil))) tree(Of(Cons(4,Nil)))`, 9)
	wantPerfect(t, chain, `edge(1,2) name(2,"no")`, `num(2) name(1,"a") sym("a") sym("no")`, 7)
	wantPerfect(t, chain, `edge(1,2) list(Cons(2,Nil))`, `num(2) name(1,"a") sym("a") list(Cons(1,Nil))`, 8)
	wantPerfect(t, chain, "num(1)", "", 4)
	// A stratum in which rows go round after it was asked for others.
	wantPerfect(t, "edge(x, z) :- edge(x, y), name(y, _), !num(y), edge(y, z). num(x) :- name(x, \"no\").", `edge(1,2) edge(2,3) edge(3,4) edge(4,5) name(2,"") name(3,"no") name(3,"") name(4,"")`, "num(3) edge(1,3) edge(3,5)", 4)
	wantPerfect(t, "edge(x, z) :- edge(x, y), !num(y), edge(y, z). num(3).", "edge(1,2) edge(2,3) edge(3,4) edge(4,5) edge(5,6) edge(6,7)", "num(3) edge(1,3) edge(3,5) edge(4,6) edge(5,7) edge(3,6) edge(3,7) edge(4,7)", 5)
	// A stratum without rules, ahead of one that has some.
	wantPerfect(t, "edge(x, y) :- name(x, _), name(y, _), x < y, !num(x).", `name(1,"a") name(2,"b") name(3,"a") num(2)`, "edge(1,2) edge(1,3)", 3)
}

// TestAsManyStrataAsMayBe: each of 20 relations asks for the next one, so every other
// one is there.
func TestAsManyStrataAsMayBe(t *testing.T) {
	letters := allLetters()
	s := ""
	for _, letter := range letters {
		s += "rel " + string(letter) + "(). "
	}
	for i := 1; i < len(letters); i++ {
		s += letters[i-1:i] + "() :- !" + letters[i:i+1] + "(). "
	}
	p := parsed(t, s)
	for _, last := range []bool{false, true} {
		d, e := impl.DbEmpty(p), impl.DbEmpty(p)
		if last {
			d.Rels[len(letters)-1] = rel(0, row())
		}
		there := 0
		for i := len(letters) - 1; i >= 0; i-- {
			if (len(letters)-1-i)%2 == 0 == last {
				e.Rels[i], there = rel(0, row()), there+1
			}
		}
		if last {
			there-- // it is given
		}
		wantPerfectOf(t, p, d, e, len(letters)+there, impl.PfOK)
	}
}

func TestOverInARound(t *testing.T) {
	squares := "num(x * x) :- num(x)."
	wantPerfectCode(t, squares, "num(1001)", 1, impl.PfOver)
	wantPerfectCode(t, squares, "num(1000)", 2, impl.PfOver)
	wantPerfectCode(t, squares, "num(2)", 5, impl.PfOver)
	wantPerfectCode(t, squares, "num(0) num(1) num(2) num(10)", 3, impl.PfOver)
	wantPerfect(t, squares, "num(0) num(-1)", "num(1)", 2)
	wantPerfectCode(t, squares+" none() :- num(16).", "num(-2)", 5, impl.PfOver)
	// By the body, by what waits, and by a term that is too long.
	wantPerfectCode(t, "num(x + 1) :- num(x), x < 3. none() :- num(x), 999998 + x < 0.", "num(0)", 4, impl.PfOver)
	wantPerfectCode(t, "num(x + 1) :- num(x), x < 3. none() :- edge(x, x + 999998), num(x).", "num(0) edge(3,3)", 4, impl.PfOver)
	wantPerfect(t, "num(x + 1) :- num(x), x < 2. none() :- edge(x, x + 999998), num(x).", "num(0) edge(2,1000000)", "num(1) num(2) none()", 4)
	wantPerfectCode(t, "list(Nil). list(Cons(1, l)) :- list(l).", "", 26, impl.PfOver)
	wantPerfectCode(t, "list(Cons(1, l)) :- list(l).", "list("+listTerm(impl.MaxTerm-7)+")", 1, impl.PfOver)
	wantPerfectCode(t, "list(Cons(1, l)) :- list(l).", "list("+listTerm(impl.MaxTerm-8)+")", 2, impl.PfOver)
	// Where there are two literals, the new row is that of one of them.
	wantPerfectCode(t, "num(x + 1) :- num(x), x < 3. edge(x, x + y) :- num(x), name(y, _).", `num(0) name(999998,"a")`, 4, impl.PfOver)
	wantPerfectCode(t, "num(x + 1) :- num(x), x < 3. edge(x, x + y) :- name(y, _), num(x).", `num(0) name(999998,"a")`, 4, impl.PfOver)
	wantPerfect(t, "num(x + 1) :- num(x), x < 2. edge(x, x + y) :- name(y, _), num(x).", `num(0) name(999998,"a")`, "num(1) num(2) edge(0,999998) edge(1,999999) edge(2,1000000)", 4)
}

// TestOverOfRowsThatWereThereBefore: they are new in no Round, but each first Round of
// a stratum meets them.
func TestOverOfRowsThatWereThereBefore(t *testing.T) {
	wantPerfectCode(t, "num(1). none() :- edge(x, _), x + 1000000 < 0.", "edge(1,2)", 1, impl.PfOver)
	wantPerfectCode(t, "edge(x, z) :- edge(x, y), edge(y, z), x * x < 1000000.", "edge(1,2) edge(2,3) edge(1001,1)", 1, impl.PfOver)
	wantPerfectCode(t, "num(x * x) :- num(x), edge(x, _).", "num(1001) edge(1001,1) num(2) edge(2,2)", 1, impl.PfOver)
	wantPerfect(t, "num(x * x) :- num(x), edge(x, _).", "num(1001) num(2) edge(2,2)", "num(4)", 2)
	// In a later stratum, of rows of the one ahead, or of none of the two.
	wantPerfectCode(t, "num(y) :- edge(_, y). sym(\"a\") :- num(x), x + 1000000 < 0, !none().", "edge(0,1)", 3, impl.PfOver)
	wantPerfectCode(t, "num(y) :- edge(_, y). sym(\"a\") :- num(x), x + 1000000 < 0, !none().", "num(1)", 2, impl.PfOver)
	wantPerfectCode(t, "num(y) :- edge(_, y). name(x * x, \"a\") :- num(x), !none().", "edge(1,1000) edge(1000,1001)", 3, impl.PfOver)
	wantPerfectCode(t, "num(y) :- edge(_, y). name(x * x, \"a\") :- name(x, s), !num(x).", "edge(1,2) name(1000,\"a\")", 4, impl.PfOver)
	wantPerfect(t, "num(y) :- edge(_, y). name(x * x, \"a\") :- name(x, s), !num(x), !none().", "edge(1,1001) name(1001,\"a\")", "num(1001)", 3)
	// Without a row at all.
	wantPerfectCode(t, "num(1000000 + 1).", "", 1, impl.PfOver)
	wantPerfectCode(t, "num(1). name(1000000 + 1, \"a\") :- !sym(\"a\"), !none(). sym(\"b\") :- num(2), !none().", "", 4, impl.PfOver)
	// In the third stratum.
	wantPerfectCode(t, "num(1). sym(\"a\") :- !none(). name(x + 1000000, s) :- num(x), sym(s), !sym(\"b\").", "", 5, impl.PfOver)
}

// TestTheFirstRuleTellsInEachRound: both rules come to an end with the row num(3).
func TestTheFirstRuleTellsInEachRound(t *testing.T) {
	names := ""
	for i := range 21 {
		names += " name(" + impl.NumText(i) + ",\"a\")"
	}
	grow, over, many := "num(x + 1) :- num(x), x < 3. ", "none() :- num(x), 999998 + x < 0. ", "sym(s) :- num(3), name(_, s), name(_, s). "
	for rules, code := range map[string]int{
		grow + over + many: impl.PfOver, grow + many + over: impl.PfMany, over + grow + many: impl.PfOver, many + grow + over: impl.PfMany, grow + over: impl.PfOver, many + grow: impl.PfMany,
		over + strings.ReplaceAll(many, "sym(s)", "none()") + grow: impl.PfOver, strings.ReplaceAll(many, "sym(s)", "none()") + over + grow: impl.PfMany,
	} {
		wantPerfectCode(t, rules, "num(0)"+names, 4, code)
		wantPerfectCode(t, rules, "num(2)"+names, 2, code)
		wantPerfectCode(t, rules, "num(3)"+names, 1, code)
		wantPerfectCode(t, rules+"tree(Of(Nil)) :- tree(Leaf), !none(), !sym(\"a\").", "num(1)"+names, 3, code)
	}
}
