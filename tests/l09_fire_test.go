package tests

import (
	"slices"
	"strings"
	"testing"

	"loop.example/g00531/impl"
)

// rowTexts has each row as its terms with blanks between them.
func rowTexts(r impl.Rel) []string {
	var texts []string
	for _, x := range r.Rows {
		texts = append(texts, strings.Join(x.T, " "))
	}
	return texts
}

// wantRows wants rows, with `; ` between them, as a relation of the head's Arity.
func wantRows(t *testing.T, what string, p impl.Prog, n int, r impl.Rel, code int, want string) {
	t.Helper()
	var rows []string
	if want != "none" {
		rows = strings.Split(want, "; ")
	}
	if code != impl.FrOK || r.Arity != len(p.Rules[n].Head.Args) || !slices.Equal(rowTexts(r), rows) || !impl.RelOk(r) {
		t.Errorf("%s: %s gives %v, %d, want %q", what, impl.RuleText(p.Rules[n]), r, code, want)
	}
}

// wantFire has the rule as the only one. With all rows fresh FireNew gives the
// same, if it has a LtAtom; with none of them it gives no row.
func wantFire(t *testing.T, rule, facts, want string) {
	t.Helper()
	p := parsed(t, declarations+rule)
	d := dbOf(t, p, facts)
	wantDbOk(t, rule, p, d, true)
	r, code := impl.Fire(p, 0, d)
	wantRows(t, "Fire", p, 0, r, code, want)
	if slices.ContainsFunc(p.Rules[0].Body, func(l impl.Lit) bool { return l.Kind == impl.LtAtom }) {
		r, code = impl.FireNew(p, 0, d, d)
		wantRows(t, "FireNew of all", p, 0, r, code, want)
	}
	r, code = impl.FireNew(p, 0, d, impl.DbEmpty(p))
	wantRows(t, "FireNew of none", p, 0, r, code, "none")
}

func TestRowsOfTheHead(t *testing.T) {
	// Each row once, in order, whatever the order of the matches.
	wantFire(t, "num(x) :- edge(_, x).", "edge(1,10) edge(2,9) edge(3,10) edge(4,-1) edge(5,9)", "-1; 9; 10")
	wantFire(t, "edge(y, x) :- edge(x, y).", "edge(1,3) edge(2,3) edge(2,1)", "1 2; 3 1; 3 2")
	wantFire(t, "edge(x, x) :- edge(x, _).", "edge(1,3) edge(2,3) edge(2,1)", "1 1; 2 2")
	wantFire(t, "none() :- num(x), x < 2.", "num(0) num(1)", "")
	wantFire(t, "none() :- num(x), x < 0.", "num(0) num(1)", "none")
	wantFire(t, "list(l) :- tree(Of(l)).", "tree(Leaf)", "none")
	wantFire(t, `many(x, s, Nil, Leaf, 7, "c") :- name(x, s).`, `name(2,"b") name(1,"b")`, `1 "b" Nil Leaf 7 "c"; 2 "b" Nil Leaf 7 "c"`)
	// Sums and constructors.
	wantFire(t, "num(x + y) :- edge(x, y).", "edge(1,2) edge(2,1) edge(0,3) edge(5,-9)", "-4; 3")
	wantFire(t, "num(x * x - 1) :- num(x).", "num(-2) num(2) num(0) num(4)", "-1; 3; 15")
	wantFire(t, "edge(x - y, x) :- edge(x, y).", "edge(1,2) edge(9,2)", "-1 1; 7 9")
	wantFire(t, "list(Cons(x, l)) :- list(l), num(x).", "num(3) num(10) list(Nil) list(Cons(3,Nil))", "Cons(3,Cons(3,Nil)); Cons(3,Nil); Cons(10,Cons(3,Nil)); Cons(10,Nil)")
	wantFire(t, `tree(Node(Of(Cons(x + 1, l)), "s", Leaf)) :- list(Cons(x, l)).`, "list(Cons(3,Nil)) list(Nil)", `Node(Of(Cons(4,Nil)),"s",Leaf)`)
	wantFire(t, "list(Cons(x * 0, Nil)) :- num(x).", "num(3) num(10)", "Cons(0,Nil)")
	wantFire(t, "num(z) :- edge(x, y), z = x * y, z != 6.", "edge(1,2) edge(2,1) edge(2,3) edge(2,2)", "2; 4")
	// What is not there.
	wantFire(t, "sym(s) :- name(x, s), !num(x).", `name(1,"b") name(2,"b") name(3,"a") name(4,"c") num(2) num(4)`, `"a"; "b"`)
	wantFire(t, "edge(x, x + 1) :- num(x), !num(x + 1).", "num(1) num(2) num(4)", "2 3; 4 5")
}

func TestRowsOfARuleWithoutABody(t *testing.T) {
	wantFire(t, "none().", "", "")
	wantFire(t, "num(5).", "num(4)", "5")
	wantFire(t, "edge(1 + 2, 2 * 3 - 7).", "", "3 -1")
	wantFire(t, "list(Cons(1, Cons(1 + 1, Nil))).", "", "Cons(1,Cons(2,Nil))")
	wantFire(t, "num(x) :- x = 5.", "num(5)", "5")
	wantFire(t, "num(5) :- !none().", "", "5")
	wantFire(t, "num(5) :- !none().", "none()", "none")
	wantFire(t, "num(5) :- 1 = 2.", "", "none")
}

func TestHeadsThatAreOver(t *testing.T) {
	long := listTerm(impl.MaxTerm - 7)
	for _, list := range [][3]string{
		{"num(x + 1) :- num(x).", "num(999999)", "num(1000000)"}, {"edge(x, x - 1) :- num(x).", "num(-999999)", "num(-1000000)"}, {"num(x * x * -1) :- num(x).", "num(1000)", "num(1001)"},
		{"list(Cons(x + 1, Nil)) :- num(x).", "num(999999)", "num(1000000)"}, {"list(Cons(x, l)) :- list(l), num(x).", "num(1) list(" + listTerm(impl.MaxTerm-8) + ")", "list(" + long + ")"}, {"tree(Node(Of(l), \"a\", Leaf)) :- list(l).", "list(Nil)", "list(" + long + ")"},
	} {
		rule, within, over := list[0], list[1], list[2]
		p := parsed(t, declarations+rule)
		d := dbOf(t, p, within)
		if r, code := impl.Fire(p, 0, d); code != impl.FrOK || len(r.Rows) != 1 {
			t.Errorf("Fire of %s = %v, %d", rule, r, code)
		}
		all := dbOf(t, p, within+" "+over)
		for fresh, want := range map[string]int{"": impl.FrOK, within: impl.FrOK, over: impl.FrOver, within + " " + over: impl.FrOver} {
			if strings.Contains(rule, "num(x).") && strings.Contains(rule, "list(l), ") && fresh == within {
				want = impl.FrOver // the new number goes with the list that was there
			}
			r, code := impl.FireNew(p, 0, all, dbOf(t, p, fresh))
			if code != want || code == impl.FrOver && !isNothing(r) {
				t.Errorf("FireNew of %s with %q = %v, %d, want %d", rule, fresh, r, code, want)
			}
		}
		if m, code := impl.Matches(p, 0, all); code != impl.FrOK || len(m) != 2 {
			t.Errorf("Matches of %s = %v, %d", rule, m, code)
		}
		if r, code := impl.Fire(p, 0, all); code != impl.FrOver || !isNothing(r) {
			t.Errorf("Fire of %s = %v, %d", rule, r, code)
		}
	}
	for _, rule := range []string{"num(1000000 + 1).", "num(1000 * 1001).", "edge(0, -1000000 - 1).", "list(Cons(1000000 + 1, Nil)).", "list(Cons(1, " + strings.ReplaceAll(long, ",", ", ") + "))."} {
		p := parsed(t, declarations+rule)
		if r, code := impl.Fire(p, 0, impl.DbEmpty(p)); code != impl.FrOver || !isNothing(r) {
			t.Errorf("Fire of %s = %v, %d", rule, r, code)
		}
		if r, code := impl.FireNew(p, 0, impl.DbEmpty(p), impl.DbEmpty(p)); code != impl.FrOK || len(r.Rows) > 0 {
			t.Errorf("FireNew of %s = %v, %d", rule, r, code)
		}
	}
}

func wantNew(t *testing.T, rule, facts, fresh, want string) {
	t.Helper()
	p := parsed(t, declarations+rule)
	r, code := impl.FireNew(p, 0, dbOf(t, p, facts), dbOf(t, p, fresh))
	wantRows(t, "FireNew of "+fresh, p, 0, r, code, want)
}

func TestRowsOfFreshRows(t *testing.T) {
	edges := "edge(1,2) edge(2,3) edge(3,4) edge(4,1)"
	path := "num(x * 10 + z) :- edge(x, y), edge(y, z)." // each row may be that of the first literal, or of the second one
	for fresh, want := range map[string]string{"": "none", "edge(1,2)": "13; 42", "edge(2,3)": "13; 24", "edge(4,1)": "31; 42", "edge(1,2) edge(3,4)": "13; 24; 31; 42", edges: "13; 24; 31; 42"} {
		wantNew(t, path, edges, fresh, want)
	}
	// A row that is fresh in both literals.
	wantNew(t, "num(x) :- edge(x, x), edge(x, _).", "edge(1,1) edge(2,2)", "edge(1,1)", "1")
	wantNew(t, "num(x) :- edge(x, y), num(y).", "edge(1,2) edge(3,4) num(2) num(4)", "num(2)", "1")
	wantNew(t, "num(x) :- edge(x, y), num(y).", "edge(1,2) edge(3,4) num(2) num(4)", "edge(3,4)", "3")
	wantNew(t, "num(x) :- edge(x, y), num(y).", "edge(1,2) edge(3,4) num(2) num(4)", "edge(3,4) num(2)", "1; 3")
	wantNew(t, "num(x) :- edge(x, y), num(y).", "edge(1,2) edge(3,4) num(2) num(4)", "edge(3,4) num(4)", "3")
	// The same row of another relation is not fresh, nor one that a LtNot asks for.
	wantNew(t, "num(x) :- edge(x, _).", `edge(1,2) num(1) name(1,"a")`, `num(1) name(1,"a")`, "none")
	wantNew(t, "sym(s) :- name(x, s), !num(x).", `name(1,"a") name(2,"b") num(2)`, "num(2)", "none")
	wantNew(t, "sym(s) :- name(x, s), !num(x).", `name(1,"a") name(2,"b") name(3,"c") num(2)`, `num(2) name(2,"b") name(3,"c")`, `"c"`)
	// A row that comes of an older way, too.
	wantNew(t, "num(x) :- edge(x, _).", "edge(1,2) edge(1,3)", "edge(1,3)", "1")
	wantNew(t, "none() :- none(), edge(_, _).", "none() edge(1,2)", "none()", "")
	wantNew(t, "none() :- none().", "none()", "none()", "")
	wantNew(t, "none() :- none().", "none()", "", "none")
	wantNew(t, "list(l) :- list(Cons(_, l)).", "list(Cons(1,Nil)) list(Cons(2,Cons(1,Nil)))", "list(Cons(2,Cons(1,Nil)))", "Cons(1,Nil)")
	// Rules without a LtAtom.
	for _, rule := range []string{"num(1).", "num(x) :- x = 1.", "num(1) :- !none()."} {
		wantNew(t, rule, "edge(1,2) num(1)", "edge(1,2)", "none")
		wantNew(t, rule, "", "", "none")
	}
}

func TestFreshRowsThatAreNotThere(t *testing.T) {
	p := parsed(t, declarations+"num(x) :- edge(x, _). num(x) :- num(x), edge(x, x).")
	d := dbOf(t, p, facts)
	for _, fresh := range []string{"edge(1,5)", "edge(2,2)", "edge(1,2) edge(1,3)", "num(7)", `sym("b")`, `list(Cons(2,Nil))`, "none() edge(1,2) tree(Of(Nil))", `many(1,"a",Nil,Leaf,2,"c")`, facts + " num(3)"} {
		for n := range p.Rules {
			wantFreshFormless(t, "a row too many", p, n, d, dbOf(t, p, fresh))
		}
	}
	wantFreshFormless(t, "a row too many", p, 0, impl.DbEmpty(p), dbOf(t, p, "none()"))
	wantFreshFormless(t, "a row too many", p, 0, dbOf(t, p, "num(1)"), dbOf(t, p, "num(1) none()"))
	for _, n := range []int{-1, 2, 1 << 62} {
		wantFreshFormless(t, "no such rule", p, n, d, d)
	}
	for _, fresh := range words(facts) {
		if r, code := impl.FireNew(p, 1, d, dbOf(t, p, fresh)); code != impl.FrOK || len(r.Rows) > 0 || r.Arity != 1 {
			t.Errorf("FireNew of %s is %v, %d", fresh, r, code)
		}
	}
}

// TestWaysWithoutAFreshRow neither count nor are over, but their rows are taken.
func TestWaysWithoutAFreshRow(t *testing.T) {
	wantNew(t, "num(x) :- num(x), edge(x, x + 1).", "num(1) num(1000000) edge(1,2) edge(1000000,1)", "num(1)", "1")
	wantNew(t, "list(Cons(y, Nil)) :- edge(x, y), !num(x + 1).", "num(1) edge(1,2) edge(1000000,1)", "edge(1,2)", "Cons(2,Nil)")
	wantNew(t, "num(y) :- edge(x, y), y = x * x.", "edge(2,4) edge(1001,1)", "edge(2,4)", "4")
	for fresh, want := range map[string]int{"edge(2,4)": impl.FrOK, "edge(1001,1)": impl.FrOver, "edge(2,4) edge(1001,1)": impl.FrOver, "num(5)": impl.FrOK} {
		p := parsed(t, declarations+"num(y) :- edge(x, y), y = x * x.")
		if _, code := impl.FireNew(p, 0, dbOf(t, p, "num(5) edge(2,4) edge(1001,1)"), dbOf(t, p, fresh)); code != want {
			t.Errorf("with %s the code is %d, want %d", fresh, code, want)
		}
	}
	// 800 ways, two for each row of edge.
	p, d := limited(t, "num(x) :- edge(x, y), num(z), z < 2.", 2, 400, "")
	wantCode(t, p, 0, d, impl.FrMany)
	for rows, want := range map[int]int{0: impl.FrOK, 1: impl.FrOK, 200: impl.FrOK, 201: impl.FrMany, 400: impl.FrMany} {
		fresh := impl.DbEmpty(p)
		fresh.Rels[placeOf(p, "edge")] = manyPairs(rows)
		r, code := impl.FireNew(p, 0, d, fresh)
		if code != want || code == impl.FrOK && len(r.Rows) != (rows+19)/20 || code == impl.FrMany && !isNothing(r) {
			t.Errorf("with %d fresh rows FireNew is %v, %d, want %d", rows, r, code, want)
		}
	}
	// Of 50 times 399 rows all are taken, whatever is fresh.
	for edges, want := range map[int]int{399: impl.FrOK, 400: impl.FrMany} {
		p, d := limited(t, "num(x) :- num(n), edge(x, y), x = n + 1.", 50, edges, "")
		fresh := impl.DbEmpty(p)
		fresh.Rels[placeOf(p, "num")] = numbersTo(1)
		r, code := impl.FireNew(p, 0, d, fresh)
		if code != want || code == impl.FrOK && !slices.Equal(rowTexts(r), []string{"1"}) {
			t.Errorf("with %d rows FireNew is %v, %d, want %d", edges, r, code, want)
		}
		if _, code := impl.FireNew(p, 0, d, impl.DbEmpty(p)); code != want {
			t.Errorf("with %d rows and none of them fresh the code is %d, want %d", edges, code, want)
		}
	}
}

// TestOverOrManyOfFreshRows has a way that is over behind more than MaxTries rows,
// and ahead of that.
func TestOverOrManyOfFreshRows(t *testing.T) {
	for way, want := range map[int]int{19949: impl.FrOver, 19950: impl.FrMany} {
		p, d := limited(t, "none() :- num(n), edge(x, y), n * 400 + (x * 20 + y) = "+impl.NumText(way)+", 1000000 + (n + 1) < 0.", 50, 400, "")
		if r, code := impl.FireNew(p, 0, d, d); code != want || !isNothing(r) {
			t.Errorf("FireNew with all rows fresh is %v, %d, want %d", r, code, want)
		}
		fresh := impl.DbEmpty(p)
		fresh.Rels[placeOf(p, "num")] = numbersTo(49) // all but the one of that way
		if _, code := impl.FireNew(p, 0, d, fresh); code != impl.FrMany {
			t.Errorf("FireNew without the row that is over has the code %d", code)
		}
	}
}
