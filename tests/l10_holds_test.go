package tests

import (
	"slices"
	"testing"

	"loop.example/g00531/impl"
)

func wantHolds(t *testing.T, rules, facts string, want bool) {
	t.Helper()
	p := parsed(t, declarations+rules)
	d := dbOf(t, p, facts)
	wantDbOk(t, rules, p, d, true)
	if got := impl.Holds(p, d); got != want {
		t.Errorf("Holds of %s over %q is %v", rules, facts, got)
	}
}

// withoutRow has all rows of a Db but one.
func withoutRow(d impl.Db, at, n int) impl.Db {
	less := impl.Db{Rels: slices.Clone(d.Rels)}
	less.Rels[at].Rows = slices.Delete(slices.Clone(d.Rels[at].Rows), n, n+1)
	return less
}

func TestHolds(t *testing.T) {
	wantHolds(t, "", "", true)
	wantHolds(t, "", facts, true)
	wantHolds(t, "num(1).", "", false)
	wantHolds(t, "num(1).", "num(2)", false)
	wantHolds(t, "num(1).", "num(1)", true)
	wantHolds(t, "num(1).", "num(1) num(2) edge(1,2)", true)
	wantHolds(t, "num(x) :- edge(x, _).", "", true)
	wantHolds(t, "num(x) :- edge(x, _).", "edge(1,2) edge(3,4) num(1)", false)
	wantHolds(t, "num(x) :- edge(x, _).", "edge(1,2) edge(3,4) num(1) num(3)", true)
	wantHolds(t, "num(x) :- edge(x, _).", "edge(1,2) num(1) num(8)", true)
	// Each rule, the first one, the last one and one between them.
	rules := "num(x) :- edge(x, _). sym(s) :- name(_, s). list(Cons(x, Nil)) :- name(x, _)."
	all := `edge(1,2) name(3,"a") num(1) sym("a") list(Cons(3,Nil))`
	wantHolds(t, rules, all, true)
	wantHolds(t, rules, `edge(1,2) name(3,"a")`, false)
	for _, fact := range []string{"num(1)", `sym("a")`, "list(Cons(3,Nil))"} {
		rest := ""
		for _, word := range words(all) {
			if word != fact {
				rest += word + " "
			}
		}
		wantHolds(t, rules, rest, false)
	}
	// All strata are looked at, each over all that is there.
	wantHolds(t, "sym(\"a\") :- !num(1).", "", false)
	wantHolds(t, "sym(\"a\") :- !num(1).", "num(1)", true)
	wantHolds(t, "sym(\"a\") :- !num(1).", "num(1) sym(\"a\")", true)
	wantHolds(t, "sym(\"a\") :- !num(1).", "sym(\"a\")", true)
	wantHolds(t, "num(1). sym(\"a\") :- !num(1).", "", false)
	wantHolds(t, "num(1). sym(\"a\") :- !num(1).", "sym(\"a\")", false)
	wantHolds(t, "num(1). sym(\"a\") :- !num(1). list(Nil) :- !sym(\"a\").", "num(1)", false)
	wantHolds(t, "num(1). sym(\"a\") :- !num(1). list(Nil) :- !sym(\"a\").", "num(1) list(Nil)", true)
	// A row that is there of another relation is not enough.
	wantHolds(t, "edge(x, x) :- num(x).", "num(1) edge(1,2) edge(2,1)", false)
	wantHolds(t, "num(x) :- list(Cons(x, _)).", "list(Cons(1,Nil)) edge(1,1)", false)
	wantHolds(t, "none() :- num(_).", "num(1)", false)
	wantHolds(t, "none() :- num(_).", "num(1) none()", true)
}

func TestOverOrManyDoesNotHold(t *testing.T) {
	for _, rule := range []string{overRule, "none() :- edge(x, _), x + 1000000 < 0.", "edge(x, y) :- edge(x, y), x + 1000000 = 7.", "none() :- !num(5), 1000000 + 1 < 0.", "num(1) :- list(Cons(x + 1000000, _)), edge(x, _)."} {
		wantHolds(t, rule, "num(1) edge(1,2) none() list(Cons(1,Nil))", false)
		wantHolds(t, "num(1)."+rule, "num(1) edge(1,2) none() list(Cons(1,Nil))", false)
		wantHolds(t, rule+"num(1).", "num(1) edge(1,2) none() list(Cons(1,Nil))", false)
	}
	wantHolds(t, overRule, "num(1) num(1000000) edge(0,2)", true)
	wantHolds(t, manyRule, edges21()+" none()", false)
	wantHolds(t, manyRule, "edge(1,1) none()", true)
	wantHolds(t, okRule+manyRule, edges21()+" none() num(1)", false)
	// As many ways as may be, and one more; as many rows.
	for n, want := range map[int]bool{20: true, 21: false} {
		p := parsed(t, declarations+"none() :- num(_), num(_). num(x) :- num(x).")
		d := dbOf(t, p, "none()")
		d.Rels[placeOf(p, "num")] = numbersTo(n)
		if impl.Holds(p, d) != want {
			t.Errorf("of %d numbers Holds is not %v", n, want)
		}
	}
	for _, rule := range []string{"num(x) :- num(x), x < 400.", "num(0)."} {
		p := parsed(t, declarations+rule)
		d := dbOf(t, p, "")
		d.Rels[placeOf(p, "num")] = numbersTo(impl.MaxRows)
		if !impl.Holds(p, d) || impl.Holds(p, withoutRow(d, placeOf(p, "num"), 0)) != (rule != "num(0).") {
			t.Errorf("over as many rows as may be %s holds: %v", rule, impl.Holds(p, d))
		}
	}
}

// TestWhatFollowsHoldsWithoutNoRow wants of programs what comes of Perfect to Hold, and
// without any one row that was not given not.
func TestWhatFollowsHoldsWithoutNoRow(t *testing.T) {
	for rules, facts := range map[string]string{
		"edge(x, z) :- edge(x, y), edge(y, z).":                               "edge(1,2) edge(2,3) edge(3,4) edge(4,1)",
		"num(0). num(x + 1) :- num(x), x < 9. edge(x, x * x) :- num(x).":      "",
		"list(l) :- list(Cons(_, l)). num(x) :- list(Cons(x, _)).":            "list(Cons(1,Cons(2,Cons(3,Nil))))",
		"none() :- num(5). num(x) :- edge(x, _). sym(\"a\") :- none().":       "edge(5,1) edge(6,1) edge(7,7)",
		"name(x, \"a\") :- num(x). name(x, \"b\") :- name(x, \"a\"). num(1).": "num(2)",
	} {
		p := parsed(t, declarations+rules)
		d := dbOf(t, p, facts)
		e, _, code := impl.Perfect(p, d)
		if code != impl.PfOK || !impl.Holds(p, e) {
			t.Errorf("what follows of %s has the code %d, and holds: %v", rules, code, impl.Holds(p, e))
		}
		for i, r := range e.Rels {
			for j, x := range r.Rows {
				if less := withoutRow(e, i, j); !impl.RelHas(d.Rels[i], x) && impl.Holds(p, less) {
					t.Errorf("%s holds over %q, without %v", rules, factWords(p, less), x)
				}
			}
		}
	}
}

func wantOutputs(t *testing.T, p impl.Prog, facts, want string) {
	t.Helper()
	d := dbOf(t, p, facts)
	wantDbOk(t, "facts", p, d, true)
	if e := impl.Outputs(p, d); !sameDb(e, dbOf(t, p, want)) {
		t.Errorf("Outputs of %q is %v, want %q", facts, e, want)
	}
}

func TestOutputs(t *testing.T) {
	p := parsed(t, "type T = A | B(T). rel a(number) input. rel b(number, number) output. rel c(T). rel d(T) output. rel e(symbol) inline. rel f() output. rel g() input. a(1). b(1, 2) :- a(3).")
	all := `a(1) a(3) b(1,2) b(2,-1) c(A) c(B(A)) d(B(A)) d(B(B(A))) e("a") f() g()`
	wantOutputs(t, p, all, "b(1,2) b(2,-1) d(B(A)) d(B(B(A))) f()")
	for _, fact := range words(all) {
		want := fact
		if fact[0] != 'b' && fact[0] != 'd' && fact[0] != 'f' {
			want = ""
		}
		wantOutputs(t, p, fact, want)
	}
	wantOutputs(t, p, "", "")
	wantOutputs(t, p, "a(3)", "") // what would follow is not there
	wantOutputs(t, parsed(t, declarations), facts, "list(Nil) list(Cons(1,Cons(2,Nil)))")
	wantOutputs(t, parsed(t, "rel p(number). rel q()."), "p(1) q()", "")
	wantOutputs(t, parsed(t, "rel p(number) output. rel q() output. q() :- !p(7)."), "p(1) p(2) q()", "p(1) p(2) q()")
	full := impl.Db{Rels: []impl.Rel{numbersTo(impl.MaxRows)}}
	if !sameDb(impl.Outputs(parsed(t, "rel p(number) output."), full), full) {
		t.Error("as many rows as may be are not all there")
	}
}
