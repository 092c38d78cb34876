package tests

import (
	"fmt"
	"slices"
	"strings"
	"testing"

	"loop.example/g00531/impl"
)

// dbOf has the facts of a text, with blanks between them, in the order that
// relations want; what it has need not be of the right types.
func dbOf(t *testing.T, p impl.Prog, facts string) impl.Db {
	t.Helper()
	var d impl.Db
	for _, decl := range p.Rels {
		d.Rels = append(d.Rels, impl.Rel{Arity: len(decl.Types)})
	}
	for _, fact := range words(facts) {
		name, args, _ := strings.Cut(strings.TrimSuffix(fact, ")"), "(")
		at := placeOf(p, name)
		r, ok := impl.RelPut(d.Rels[at], impl.Tuple{T: splitTerms(args)})
		if !ok {
			t.Fatalf("%s cannot be put", fact)
		}
		d.Rels[at] = r
	}
	return d
}

// splitTerms looks for each comma that is in no brackets.
func splitTerms(s string) []string {
	var terms []string
	depth, from := 0, 0
	for i, b := range s + "," {
		switch {
		case b == '(':
			depth++
		case b == ')':
			depth--
		case b == ',' && depth == 0 && s != "":
			terms = append(terms, s[from:i])
			from = i + 1
		}
	}
	return terms
}

func wantDbOk(t *testing.T, what string, p impl.Prog, d impl.Db, want bool) {
	t.Helper()
	if got := impl.DbOk(p, d); got != want {
		t.Errorf("%s: DbOk(%.500s, %v) = %v", what, impl.ProgText(p), d, got)
	}
}

// wantFormless wants what Matches, Fire and FireNew say where d is not DbOk or n
// is no rule.
func wantFormless(t *testing.T, what string, p impl.Prog, n int, d impl.Db) {
	t.Helper()
	if list, code := impl.Matches(p, n, d); len(list) > 0 || code != impl.FrForm {
		t.Errorf("%s: Matches at %d = %v, %d", what, n, list, code)
	}
	if r, code := impl.Fire(p, n, d); !isNothing(r) || code != impl.FrForm {
		t.Errorf("%s: Fire at %d = %v, %d", what, n, r, code)
	}
	wantFreshFormless(t, what, p, n, d, d)
}

func wantFreshFormless(t *testing.T, what string, p impl.Prog, n int, d, fresh impl.Db) {
	t.Helper()
	if r, code := impl.FireNew(p, n, d, fresh); !isNothing(r) || code != impl.FrForm {
		t.Errorf("%s: FireNew at %d with %v = %v, %d", what, n, fresh, r, code)
	}
}

const facts = `none() num(1) num(-2) sym("a") sym("") list(Nil) list(Cons(1,Cons(2,Nil))) tree(Leaf) tree(Of(Cons(1,Nil))) tree(Node(Leaf,"a",Of(Nil)))
	edge(1,2) edge(1,-3) name(1,"a") many(1,"a",Nil,Leaf,2,"b") many(1,"a",Cons(0,Nil),Of(Nil),2,"b")`

func TestDbsThatAreOk(t *testing.T) {
	p := parsed(t, declarations+"num(x) :- edge(x, _).")
	wantDbOk(t, "all kinds of facts", p, dbOf(t, p, facts), true)
	wantDbOk(t, "no facts", p, dbOf(t, p, ""), true)
	for _, fact := range words(facts) {
		wantDbOk(t, fact, p, dbOf(t, p, fact), true)
	}
	wantDbOk(t, "no relations", impl.Prog{}, impl.Db{}, true)
	wantDbOk(t, "no relations", impl.Prog{}, impl.Db{Rels: []impl.Rel{}}, true)
	full := dbOf(t, p, "")
	full.Rels[placeOf(p, "edge")] = manyPairs(impl.MaxRows)
	wantDbOk(t, "as many rows as may be", p, full, true)
}

// manyPairs has n rows of two numbers.
func manyPairs(n int) impl.Rel {
	r := impl.Rel{Arity: 2}
	for i := range n {
		r.Rows = append(r.Rows, row(impl.NumText(i/20), impl.NumText(i%20)))
	}
	return r
}

func TestDbsWithTooFewOrTooManyRels(t *testing.T) {
	p := parsed(t, declarations+"none().")
	d := dbOf(t, p, facts)
	count := len(d.Rels)
	for i := range count {
		less := impl.Db{Rels: slices.Delete(slices.Clone(d.Rels), i, i+1)}
		wantDbOk(t, fmt.Sprint("without relation ", i), p, less, false)
		wantFormless(t, fmt.Sprint("without relation ", i), p, 0, less)
		wantFreshFormless(t, fmt.Sprint("fresh without relation ", i), p, 0, d, less)
		more := impl.Db{Rels: slices.Insert(slices.Clone(d.Rels), i, d.Rels[i])}
		wantDbOk(t, fmt.Sprint("with relation ", i, " twice"), p, more, false)
	}
	for _, rels := range [][]impl.Rel{nil, {}, d.Rels[:1], d.Rels[:count-1], append(slices.Clone(d.Rels), rel(0)), append(slices.Clone(d.Rels), impl.Rel{})} {
		wantDbOk(t, fmt.Sprint(len(rels), " relations"), p, impl.Db{Rels: rels}, false)
		wantFormless(t, fmt.Sprint(len(rels), " relations"), p, 0, impl.Db{Rels: rels})
	}
	wantDbOk(t, "a relation that is not declared", impl.Prog{}, impl.Db{Rels: []impl.Rel{rel(0)}}, false)
	turned := impl.Db{Rels: slices.Clone(d.Rels)}
	slices.Reverse(turned.Rels)
	wantDbOk(t, "in another order", p, turned, false)
}

// wrongRels are, each for the relation of a name, not RelOk or of another Arity.
func wrongRels() map[string][]impl.Rel {
	return map[string][]impl.Rel{
		"edge": {
			rel(2, row("2", "1"), row("1", "2")), rel(2, row("1", "2"), row("1", "2")), rel(2, row("1", "2"), row("1")), rel(2, row("1", "02")), rel(2, row("1", "")), rel(2, row("1", "1000001")),
			rel(2, row("1", "2", "3")), rel(1), rel(3), rel(1, row("1")), rel(3, row("1", "2", "3")), rel(-1), rel(7), rel(0), rel(0, row()), manyPairs(impl.MaxRows + 1),
		},
		"num":  {rel(0), rel(2), rel(1, row("2"), row("1")), rel(1, row("10"), row("9")), manyRows(impl.MaxRows + 1), rel(1, row(longTerm(impl.MaxTerm+1)))},
		"none": {rel(1), rel(-1), rel(0, row(), row()), rel(0, row("1"))},
		"many": {rel(5), rel(7), rel(6, row("1", `"a"`, "Nil", "Leaf", "2"))},
	}
}

func TestDbsWithARelThatIsNotRight(t *testing.T) {
	p := parsed(t, declarations+"num(1).")
	for name, list := range wrongRels() {
		for i, r := range list {
			for _, given := range []string{"", facts} {
				d := dbOf(t, p, given)
				d.Rels[placeOf(p, name)] = r
				what := fmt.Sprint(i, " of ", name)
				wantDbOk(t, what, p, d, false)
				wantFormless(t, what, p, 0, d)
				wantFreshFormless(t, what, p, 0, dbOf(t, p, facts), d)
				wantFreshFormless(t, what, p, 0, d, dbOf(t, p, ""))
			}
		}
	}
}

func TestDbsWithATermOfAnotherType(t *testing.T) {
	p := parsed(t, declarations+"num(1).")
	for _, fact := range []string{
		`num("a")`, "num(Nil)", "num(Leaf)", "sym(1)", "sym(A)", "sym(Nil)", "list(1)", `list("Nil")`, "list(Leaf)", "list(Other)", "list(Cons)", "list(Nil(1))", "list(Cons(1))", "list(Cons(1,Nil,Nil))", "list(Cons(Nil,1))",
		`list(Cons("1",Nil))`, "list(Cons(1,Cons(2,Cons(3,Leaf))))", `list(Cons(1,Cons("2",Nil)))`, "list(Cons(1,Cons(Cons(2,Nil),Nil)))", "list(Of(Nil))",
		"tree(Nil)", "tree(Of(Leaf))", `tree(Node(Leaf,"a",Nil))`, "tree(Node(Leaf,1,Leaf))", `tree(Node(Of(Cons(1,Cons(Leaf,Nil))),"a",Leaf))`, `tree(Node(Node(Node(Leaf,"a",Leaf),"b",Leaf),3,Leaf))`,
		`edge("1",2)`, "edge(1,Nil)", `name("a",1)`, "name(1,2)", `many(1,"a",Nil,Leaf,2,3)`, `many(1,"a",Leaf,Nil,2,"b")`, `many(1,"a",Nil,Of(Cons(Nil,Nil)),2,"b")`,
	} {
		d := dbOf(t, p, fact)
		wantDbOk(t, fact, p, d, false)
		wantFormless(t, fact, p, 0, d)
		wantFreshFormless(t, fact, p, 0, dbOf(t, p, ""), d)
		wantDbOk(t, fact+" among others", p, dbOf(t, p, facts+" "+fact), false)
	}
}

// notReady are programs with one relation at least, by what is wrong with them.
func notReady(t *testing.T) map[string]impl.Prog {
	t.Helper()
	list := map[string]impl.Prog{
		"a type that is none":        parsed(t, "rel p(Other). rel q()."),
		"a relation twice":           parsed(t, "rel p(). rel p()."),
		"a rule that is not typed":   parsed(t, "rel p(number). p(\"a\")."),
		"a name without a type":      parsed(t, "rel p(). p() :- x = y."),
		"a rule that is unbound":     parsed(t, "rel p(number). p(1). p(x)."),
		"an ExAny where none may be": parsed(t, "rel p(number). p(_)."),
		"no strata":                  parsed(t, "rel p(). rel q(). q(). p() :- q(), !p()."),
		"no strata by a ring":        parsed(t, "rel p(). rel q(). p() :- !q(). q() :- p()."),
	}
	for what, p := range unsoundProgs() {
		if len(p.Rels) > 0 {
			list[what] = p
		}
	}
	return list
}

func TestDbsOfProgramsThatAreNotReady(t *testing.T) {
	for what, p := range notReady(t) {
		d := dbOf(t, p, "")
		wantDbOk(t, what, p, d, false)
		wantDbOk(t, what, p, impl.Db{}, false)
		if got := impl.DbEmpty(p); len(got.Rels) > 0 {
			t.Errorf("%s: DbEmpty is %v", what, got)
		}
		for n := -1; n <= len(p.Rules); n++ {
			wantFormless(t, what, p, n, d)
			wantFormless(t, what, p, n, impl.Db{})
		}
	}
	for what, p := range unsoundProgs() {
		wantDbOk(t, what, p, impl.Db{}, false)
	}
}

func wantEmpty(t *testing.T, p impl.Prog, arities ...int) {
	t.Helper()
	d := impl.DbEmpty(p)
	if len(d.Rels) != len(arities) {
		t.Fatalf("DbEmpty(%s) is %v", impl.ProgText(p), d)
	}
	for i, arity := range arities {
		if !sameRel(d.Rels[i], rel(arity)) {
			t.Errorf("relation %d of DbEmpty(%s) is %v", i, impl.ProgText(p), d.Rels[i])
		}
	}
	wantDbOk(t, "DbEmpty", p, d, true)
}

func TestDbsThatAreEmpty(t *testing.T) {
	wantEmpty(t, impl.Prog{})
	wantEmpty(t, parsed(t, "type T = A."))
	wantEmpty(t, parsed(t, "rel p()."), 0)
	wantEmpty(t, parsed(t, declarations), 0, 1, 1, 1, 1, 2, 2, 6)
	wantEmpty(t, parsed(t, declarations+"num(1). num(x) :- edge(x, _), !list(Nil)."), 0, 1, 1, 1, 1, 2, 2, 6)
	for n := range impl.MaxArity + 1 {
		wantEmpty(t, parsed(t, "rel p("+strings.Join(times(n, "number"), ", ")+"). rel q(symbol) input."), n, 1)
	}
	all := ""
	for _, letter := range allLetters()[:impl.MaxRels] {
		all += "rel " + string(letter) + "(symbol). "
	}
	wantEmpty(t, parsed(t, all), times(impl.MaxRels, 1)...)
}
