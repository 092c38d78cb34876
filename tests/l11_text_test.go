package tests

import (
	"math"
	"strings"
	"testing"

	"loop.example/g00531/impl"
)

func wantFactText(t *testing.T, p impl.Prog, n int, x impl.Tuple, want string) {
	t.Helper()
	if got := impl.FactText(p, n, x); got != want {
		t.Errorf("FactText(%.300s, %d, %.300q) = %.500q, want %.500q", impl.ProgText(p), n, x.T, got, want)
	}
}

func wantFactsText(t *testing.T, p impl.Prog, d impl.Db, want string) {
	t.Helper()
	if got := impl.FactsText(p, d); got != want {
		t.Errorf("FactsText of %.500q with %s is %.500q, want %.500q", factWords(p, d), rulesText(p), got, want)
	}
}

// lines ends each of them by a byte 10.
func lines(list ...string) string {
	var s strings.Builder
	for _, line := range list {
		s.WriteString(line + "\n")
	}
	return s.String()
}

func TestFactText(t *testing.T) {
	p := parsed(t, declarations+"num(1).")
	for _, c := range []struct {
		name string
		x    impl.Tuple
		want string
	}{
		{"none", row(), "none()."},
		{"none", impl.Tuple{T: []string{}}, "none()."},
		{"num", row("7"), "num(7)."},
		{"num", row("-1000000"), "num(-1000000)."},
		{"sym", row(`""`), `sym("").`},
		{"sym", row(`"a"`), `sym("a").`},
		{"list", row("Nil"), "list(Nil)."},
		{"list", row("Cons(1,Cons(2,Nil))"), "list(Cons(1,Cons(2,Nil)))."},
		{"tree", row(`Node(Leaf,"a",Of(Nil))`), `tree(Node(Leaf,"a",Of(Nil))).`},
		{"edge", row("1", "-2"), "edge(1, -2)."},
		{"name", row("0", `"b"`), `name(0, "b").`},
		{"many", row("1", `"a"`, "Cons(0,Nil)", "Of(Nil)", "2", `"b"`), `many(1, "a", Cons(0,Nil), Of(Nil), 2, "b").`},
		// What stands within quotes is not looked at.
		{"sym", row(`"("`), `sym("(").`},
		{"sym", row(`"), "`), `sym("), ").`},
		{"sym", row(`"a, b"`), `sym("a, b").`},
		{"sym", row(`")."`), `sym(").").`},
		{"sym", row(`" "`), `sym(" ").`},
		{"sym", row(`",  ,"`), `sym(",  ,").`},
		{"name", row("1", `"1, (2)."`), `name(1, "1, (2).").`},
		{"tree", row(`Node(Leaf,"), (",Leaf)`), `tree(Node(Leaf,"), (",Leaf)).`},
	} {
		wantFactText(t, p, placeOf(p, c.name), c.x, c.want)
	}
}

// TestFactTextOfOtherTermsThanTheRelationWants: neither how many terms there are nor
// their types are looked at.
func TestFactTextOfOtherTermsThanTheRelationWants(t *testing.T) {
	p := parsed(t, declarations)
	wantFactText(t, p, placeOf(p, "none"), row("1"), "none(1).")
	wantFactText(t, p, placeOf(p, "none"), row("1", "2", "3", "4", "5", "6"), "none(1, 2, 3, 4, 5, 6).")
	wantFactText(t, p, placeOf(p, "num"), row(), "num().")
	wantFactText(t, p, placeOf(p, "num"), row("1", "2"), "num(1, 2).")
	wantFactText(t, p, placeOf(p, "many"), row("1"), "many(1).")
	wantFactText(t, p, placeOf(p, "num"), row(`"a"`), `num("a").`)
	wantFactText(t, p, placeOf(p, "list"), row("Other(1,Leaf)"), "list(Other(1,Leaf)).")
	for n, decl := range p.Rels {
		for _, x := range risingRows() {
			wantFactText(t, p, n, x, decl.Name+"("+strings.Join(x.T, ", ")+").")
		}
		for _, s := range terms() {
			wantFactText(t, p, n, row(s), decl.Name+"("+s+").")
			wantFactText(t, p, n, row("1", s, s), decl.Name+"(1, "+s+", "+s+").")
		}
	}
}

func TestFactTextOfNoRelationOrNoTuple(t *testing.T) {
	p := parsed(t, declarations)
	for _, n := range []int{-1, -2, len(p.Rels), len(p.Rels) + 1, math.MinInt, math.MaxInt} {
		for _, x := range risingRows() {
			wantFactText(t, p, n, x, "")
		}
	}
	wantFactText(t, impl.Prog{}, 0, row(), "")
	wantFactText(t, impl.Prog{}, -1, row(), "")
	wantFactText(t, p, len(p.Rels)-1, row("1"), "many(1).")
	for n := range p.Rels {
		for _, x := range noRows() {
			wantFactText(t, p, n, x, "")
		}
	}
}

// TestFactTextOfAnyProgram: p need not be Ready, nor sound.
func TestFactTextOfAnyProgram(t *testing.T) {
	for _, p := range notReady(t) {
		for n, decl := range p.Rels {
			wantFactText(t, p, n, row("1", "A"), decl.Name+"(1, A).")
			wantFactText(t, p, n, row(), decl.Name+"().")
		}
		wantFactText(t, p, len(p.Rels), row("1"), "")
	}
	p := impl.Prog{Rels: []impl.RelDecl{{Name: ""}, {Name: "Big name"}, {Name: "p", Mode: 9}, {Name: "p"}}}
	for n, want := range []string{"(1).", "Big name(1).", "p(1).", "p(1)."} {
		wantFactText(t, p, n, row("1"), want)
	}
}

// TestFactsText: relations in the order of the program, rows in theirs.
func TestFactsText(t *testing.T) {
	p := parsed(t, "rel z(number) input. rel b(). rel empty(number). rel a(symbol, number) output. rel y(). num(1). rel num(number) inline.")
	d := impl.DbEmpty(p)
	wantFactsText(t, p, d, "")
	d.Rels[3] = rel(2, row(`"a"`, "-3"), row(`"a"`, "2"), row(`"a"`, "10"), row(`"a, b"`, "1"), row(`"b"`, "0"))
	wantFactsText(t, p, d, lines(`a("a", -3).`, `a("a", 2).`, `a("a", 10).`, `a("a, b", 1).`, `a("b", 0).`))
	d.Rels[0] = rel(1, row("9"), row("10"))
	wantFactsText(t, p, d, lines("z(9).", "z(10).", `a("a", -3).`, `a("a", 2).`, `a("a", 10).`, `a("a, b", 1).`, `a("b", 0).`))
	d.Rels[3] = rel(2, row(`").n"`, "1"))
	d.Rels[1] = rel(0, row())
	wantFactsText(t, p, d, lines("z(9).", "z(10).", "b().", `a(").n", 1).`))
	d.Rels[5] = rel(1, row("0"))
	wantFactsText(t, p, d, lines("z(9).", "z(10).", "b().", `a(").n", 1).`, "num(0)."))
	d.Rels[0], d.Rels[3] = rel(1), rel(2)
	wantFactsText(t, p, d, lines("b().", "num(0)."))
	wantFactsText(t, impl.Prog{}, impl.Db{}, "")
	wantFactsText(t, parsed(t, "type T = A."), impl.Db{}, "")
	q := parsed(t, declarations+"num(9).")
	wantFactsText(t, q, dbOf(t, q, facts), lines(
		"none().", "num(-2).", "num(1).", `sym("").`, `sym("a").`, "list(Cons(1,Cons(2,Nil))).", "list(Nil).",
		"tree(Leaf).", `tree(Node(Leaf,"a",Of(Nil))).`, "tree(Of(Cons(1,Nil))).", "edge(1, -3).", "edge(1, 2).", `name(1, "a").`,
		`many(1, "a", Cons(0,Nil), Of(Nil), 2, "b").`, `many(1, "a", Nil, Leaf, 2, "b").`))
}

// TestFactsTextHasNoLimit: what cannot be read again has a text, too.
func TestFactsTextHasNoLimit(t *testing.T) {
	p := parsed(t, "type T = A | Ab(number, T). rel p(T). rel q(number, number).")
	d := impl.DbEmpty(p)
	d.Rels[1] = manyPairs(impl.MaxRows)
	var list []string
	for i := range impl.MaxRows {
		list = append(list, "q("+impl.NumText(i/20)+", "+impl.NumText(i%20)+").")
	}
	wantFactsText(t, p, d, lines(list...))
	long := strings.Repeat("Ab(1000000,", 15) + "A" + strings.Repeat(")", 15)
	var longs []string
	for i := range 40 {
		d.Rels[0].Rows = append(d.Rels[0].Rows, row("Ab("+impl.NumText(i)+","+long+")"))
		longs = append(longs, "p(Ab("+impl.NumText(i)+","+long+")).")
	}
	want := lines(append(longs, list...)...)
	wantFactsText(t, p, d, want)
	if len(want) <= impl.MaxFacts {
		t.Errorf("the facts have %d bytes", len(want))
	}
	wantFault(t, p, want, 0, impl.FcLong)
}

func TestFactsTextOfNoDb(t *testing.T) {
	p := parsed(t, declarations+"num(1).")
	for name, list := range wrongRels() {
		for _, r := range list {
			d := dbOf(t, p, facts)
			d.Rels[placeOf(p, name)] = r
			wantFactsText(t, p, d, "")
		}
	}
	for _, fact := range []string{`num("a")`, "list(Leaf)", "list(Cons(1,Leaf))", `many(1,"a",Nil,Leaf,2,3)`} {
		wantFactsText(t, p, dbOf(t, p, facts+" "+fact), "")
	}
	d := dbOf(t, p, facts)
	wantFactsText(t, p, impl.Db{}, "")
	wantFactsText(t, p, impl.Db{Rels: d.Rels[:len(d.Rels)-1]}, "")
	wantFactsText(t, p, impl.Db{Rels: append(d.Rels[:len(d.Rels):len(d.Rels)], rel(0))}, "")
	for _, p := range notReady(t) {
		wantFactsText(t, p, dbOf(t, p, ""), "")
		d := dbOf(t, p, "")
		for i := range d.Rels {
			if d.Rels[i].Arity == 0 {
				d.Rels[i] = rel(0, row())
			}
		}
		wantFactsText(t, p, d, "")
	}
}
