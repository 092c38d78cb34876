package tests

import (
	"testing"

	"loop.example/g00531/impl"
)

// TestSumsThatWait have their names' values from the literal that they stand in,
// from another one, or from an equation.
func TestSumsThatWait(t *testing.T) {
	edges := "edge(1,1) edge(1,2) edge(2,1) edge(2,3) edge(3,6)"
	wantMatches(t, "num(x) :- edge(x, x + 1).", edges, "x=1; x=2")
	wantMatches(t, "num(x) :- edge(x - 1, x).", edges, "x=2; x=3")
	wantMatches(t, "num(x) :- edge(x, 2 * x).", edges, "x=1; x=3")
	wantMatches(t, "num(x) :- edge(x + 1, x * 3), num(x).", edges+" num(0) num(1) num(2)", "x=1; x=2")
	wantMatches(t, "num(x) :- num(x), edge(x + 1, x * 3).", edges+" num(0) num(1) num(2)", "x=1; x=2")
	wantMatches(t, "num(x) :- num(x + 1), num(x).", "num(1) num(2) num(4)", "x=1")
	wantMatches(t, "num(y) :- edge(x, x + y), num(y).", edges+" num(0) num(1)", "y=0 x=1; y=1 x=1; y=1 x=2")
	wantMatches(t, "num(x) :- num(x + x), x = 2.", "num(1) num(4)", "x=2")
	wantMatches(t, "num(x) :- num(x * x), x = y - 1, num(y).", "num(4) num(3) num(9)", "x=2 y=3; x=3 y=4")
	wantMatches(t, "none() :- num(1 + 2).", "num(1) num(3)", "")
	wantMatches(t, "none() :- num(1 + 2).", "num(1) num(2)", "none")
	// A sum within a constructor, and within another sum.
	wantMatches(t, "num(x) :- list(Cons(x + 1, Cons(x, _))).", "list(Cons(2,Cons(1,Nil))) list(Cons(2,Cons(2,Nil))) list(Cons(3,Nil)) list(Cons(0,Cons(-1,Cons(5,Nil))))", "x=-1; x=1")
	wantMatches(t, "num(x) :- tree(Node(Of(Cons(x * 2 - y, l)), _, Of(Cons(y, Cons(x, l))))).", `tree(Node(Of(Cons(1,Nil)),"a",Of(Cons(3,Cons(2,Nil))))) tree(Node(Of(Cons(1,Nil)),"a",Of(Cons(4,Cons(2,Nil)))))`, "x=2 y=3 l=Nil")
	wantMatches(t, "num(x) :- edge(x, (x + 1) * (x + 1) - 2).", "edge(1,2) edge(2,7) edge(3,13)", "x=1; x=2")
	// More than one in a literal, and in several.
	wantMatches(t, "num(x) :- edge(x + 1, x - 1), num(x), edge(x * x, x).", "edge(3,1) edge(4,2) num(2) num(3)", "x=2")
	wantMatches(t, "num(x) :- edge(x + 1, x - 1), num(x), edge(x * x, x).", "edge(3,1) edge(4,3) edge(3,2) num(2) num(3)", "none")
	// A name that is bound by its place outside a sum alone.
	wantMatches(t, "num(x) :- edge(x + x, x).", "edge(2,1) edge(1,2) edge(0,0)", "x=0; x=1")
}

func TestEquationsInEitherDirection(t *testing.T) {
	// Both sides known.
	wantMatches(t, "num(x) :- edge(x, y), x = y.", "edge(1,1) edge(1,2) edge(2,2)", "x=1 y=1; x=2 y=2")
	wantMatches(t, "num(x) :- edge(x, y), x + 1 = y * 2.", "edge(1,1) edge(1,2) edge(3,2)", "x=1 y=1; x=3 y=2")
	wantMatches(t, "num(x) :- num(x), list(l), l = Cons(x, Nil).", "num(1) num(2) list(Cons(2,Nil)) list(Nil)", "x=2 l=Cons(2,Nil)")
	wantMatches(t, "none() :- Cons(1 + 1, Nil) = Cons(2, Nil), \"a\" = \"a\".", "", "")
	wantMatches(t, "none() :- Cons(1 + 1, Nil) = Cons(3, Nil).", "", "none")
	// One side known.
	for _, body := range []string{"num(x), y = x + 1", "num(x), x + 1 = y", "y = x + 1, num(x)", "x + 1 = y, num(x)"} {
		wantMatches(t, "num(y) :- "+body+".", "num(1) num(5)", "y=2 x=1; y=6 x=5")
	}
	for _, body := range []string{"y = 7", "7 = y", "y = 3 + 4", "3 + 4 = y", "z = 7, y = z", "y = z, z = 7", "z = y, 7 = z", "y = z, w = 7, w = z"} {
		p := parsed(t, declarations+"num(y) :- "+body+".")
		list, code := impl.Matches(p, 0, dbOf(t, p, ""))
		if code != impl.FrOK || len(list) != 1 || list[0].Vals[0] != "7" || !sameTexts(list[0].Vals, times(len(list[0].Names), "7")) {
			t.Errorf("with %s there is %v, %d", body, list, code)
		}
	}
	// One that takes a constructor apart, and one of which some names are known.
	lists := "list(Cons(1,Cons(2,Nil))) list(Cons(3,Nil)) list(Nil)"
	for _, equation := range []string{"l = Cons(x, k)", "Cons(x, k) = l"} {
		wantMatches(t, "edge(x, x) :- list(l), "+equation+".", lists, "x=1 l=Cons(1,Cons(2,Nil)) k=Cons(2,Nil); x=3 l=Cons(3,Nil) k=Nil")
		wantMatches(t, "list(k) :- list(l), "+equation+", x < 3.", lists, "k=Cons(2,Nil) l=Cons(1,Cons(2,Nil)) x=1")
		wantMatches(t, "list(k) :- list(l), num(x), "+equation+".", lists+" num(3) num(4)", "k=Nil l=Cons(3,Nil) x=3")
	}
	wantMatches(t, "num(x) :- list(l), l = Cons(x, Cons(x, Nil)).", "list(Cons(1,Cons(1,Nil))) list(Cons(1,Cons(2,Nil)))", "x=1 l=Cons(1,Cons(1,Nil))")
	wantMatches(t, "num(x) :- list(l), Cons(x, Cons(2, m)) = l, m = Nil.", "list(Cons(1,Cons(2,Nil))) list(Cons(1,Cons(3,Nil))) list(Cons(5,Cons(2,Cons(1,Nil))))", "x=1 l=Cons(1,Cons(2,Nil)) m=Nil")
	wantMatches(t, "tree(a) :- tree(b), Node(a, \"a\", Of(Cons(1, l))) = b.", `tree(Node(Leaf,"a",Leaf)) tree(Node(Leaf,"a",Of(Cons(1,Nil)))) tree(Node(Leaf,"a",Of(Cons(2,Nil)))) tree(Node(Leaf,"b",Of(Cons(1,Nil))))`, `a=Leaf b=Node(Leaf,"a",Of(Cons(1,Nil))) l=Nil`)
	// A side that is made, and taken apart by the other one.
	wantMatches(t, "edge(x, y) :- num(n), Cons(x, Cons(y, Nil)) = Cons(n + 1, Cons(n - 1, Nil)).", "num(1) num(7)", "x=2 y=0 n=1; x=8 y=6 n=7")
	wantMatches(t, "edge(x, y) :- num(n), Cons(n + 1, Cons(n - 1, Nil)) = Cons(x, Cons(y, Nil)).", "num(1) num(7)", "x=2 y=0 n=1; x=8 y=6 n=7")
	wantMatches(t, "num(x) :- num(n), Cons(x, Nil) = Cons(n, Cons(n, Nil)).", "num(1)", "none")
}

func sameTexts(a, b []string) bool {
	return matchTexts([]impl.Match{{Vals: a}})[0] == matchTexts([]impl.Match{{Vals: b}})[0]
}

// TestEquationsThatWait for one that stands behind them, or for a sum's names.
func TestEquationsThatWait(t *testing.T) {
	wantMatches(t, "num(a) :- a = b + c, b = c * 2, c = d - 1, num(d).", "num(3) num(5)", "a=6 b=4 c=2 d=3; a=12 b=8 c=4 d=5")
	wantMatches(t, "num(a) :- num(a + b), a = b, b = c, c = 2.", "num(4) num(5)", "a=2 b=2 c=2")
	wantMatches(t, "num(x) :- x + y = z, x = 1, y = 2, num(z).", "num(3) num(4)", "x=1 y=2 z=3")
	wantMatches(t, "num(x) :- y = x * 2, list(l), l = Cons(x, k), y < 5.", "list(Cons(1,Nil)) list(Cons(2,Nil)) list(Cons(3,Nil)) list(Nil)", "x=1 y=2 l=Cons(1,Nil) k=Nil; x=2 y=4 l=Cons(2,Nil) k=Nil")
	wantMatches(t, "list(m) :- m = Cons(x, k), l = Cons(x, k), list(l), x != 2.", "list(Cons(1,Nil)) list(Cons(2,Nil)) list(Nil)", "m=Cons(1,Nil) x=1 k=Nil l=Cons(1,Nil)")
	// Two that wait for each other, and an equation gives one of them what it needs.
	wantMatches(t, "num(x) :- num(x + y), edge(y, x * 2), x = y + 1.", "num(3) num(5) edge(1,4) edge(2,6) edge(3,7)", "x=2 y=1; x=3 y=2")
	wantMatches(t, "num(x) :- x = y + 1, z = x + y, y = z - x, edge(y, _).", "edge(4,0)", "x=5 y=4 z=9")
	wantMatches(t, "num(x) :- x = z - y, y = z - x, z = 5, num(x).", "num(1) num(2)", "x=1 z=5 y=4; x=2 z=5 y=3")
}

func TestComparisonsAheadOfWhatBindsTheirNames(t *testing.T) {
	edges := "edge(1,1) edge(1,2) edge(2,1)"
	for sign, want := range map[string]string{"=": "x=1 y=1", "!=": "x=1 y=2; x=2 y=1", "<": "x=1 y=2", "<=": "x=1 y=1; x=1 y=2"} {
		wantMatches(t, "num(x) :- x "+sign+" y, edge(x, y).", edges, want)
		wantMatches(t, "num(x) :- edge(x, y), x "+sign+" y.", edges, want)
		wantMatches(t, "num(x) :- x + 0 "+sign+" 1 * y, edge(x, y).", edges, want)
	}
	wantMatches(t, "num(x) :- 9 < x, num(x).", "num(10) num(8) num(9) num(-10)", "x=10")
	wantMatches(t, "num(x) :- 9 <= x, num(x).", "num(10) num(8) num(9) num(-10)", "x=9; x=10")
	wantMatches(t, "num(x) :- x < -9, num(x).", "num(10) num(-8) num(-9) num(-10) num(-100)", "x=-100; x=-10")
	wantMatches(t, "num(x) :- x < 10, x = y * 2, num(y).", "num(1) num(5) num(4)", "x=2 y=1; x=8 y=4")
	wantMatches(t, "list(l) :- l != Nil, l != Cons(1, Nil), list(l).", "list(Nil) list(Cons(1,Nil)) list(Cons(1,Cons(1,Nil)))", "l=Cons(1,Cons(1,Nil))")
	wantMatches(t, "sym(x) :- x != \"a\", sym(x).", `sym("a") sym("A") sym("")`, `x=""; x="A"`)
	wantMatches(t, "none() :- !num(x), edge(x, _).", edges+" num(1)", "x=2")
}

func TestWhatIsNotThere(t *testing.T) {
	wantMatches(t, "num(x) :- num(x), !edge(x, _).", "num(1) num(2) edge(1,5) edge(3,2)", "x=2")
	wantMatches(t, "num(x) :- num(x), !edge(_, x).", "num(1) num(2) edge(1,5) edge(3,2)", "x=1")
	wantMatches(t, "num(x) :- num(x), !edge(_, _).", "num(1) num(2)", "x=1; x=2")
	wantMatches(t, "num(x) :- num(x), !edge(_, _).", "num(1) num(2) edge(7,7)", "none")
	wantMatches(t, "num(x) :- num(x), !edge(x, x).", "num(1) num(2) num(3) edge(1,1) edge(2,1) edge(1,2)", "x=2; x=3")
	wantMatches(t, "num(x) :- num(x), !edge(x, 3), !none().", "num(1) num(2) edge(1,3) edge(2,4)", "x=2")
	wantMatches(t, "num(x) :- num(x), !none().", "num(1) none()", "none")
	// The first row that does not fit is not the only one that is looked at.
	wantMatches(t, "num(x) :- num(x), !edge(x, 9).", "num(2) edge(1,9) edge(2,8) edge(2,9) edge(3,9)", "none")
	// Constructors, with names, terms and ExAny in them.
	wantMatches(t, "num(x) :- num(x), !list(Cons(x, _)).", "num(1) num(2) list(Cons(1,Nil)) list(Cons(3,Cons(2,Nil)))", "x=2")
	wantMatches(t, "num(x) :- num(x), !list(Cons(_, Cons(x, Nil))).", "num(1) num(2) list(Cons(1,Nil)) list(Cons(3,Cons(2,Nil)))", "x=1")
	wantMatches(t, "num(x) :- num(x), !list(Cons(3, Cons(x, _))), !list(Nil).", "num(1) num(2) list(Cons(1,Nil)) list(Cons(3,Cons(2,Nil)))", "x=1")
	wantMatches(t, "list(l) :- tree(Of(l)), !tree(Node(Of(l), _, _)).", `tree(Of(Nil)) tree(Of(Cons(1,Nil))) tree(Node(Of(Nil),"a",Leaf)) tree(Node(Leaf,"a",Of(Cons(1,Nil))))`, "l=Cons(1,Nil)")
	// Sums.
	wantMatches(t, "edge(x, x) :- num(x), !num(x + 1).", "num(1) num(2) num(4) num(5) num(6)", "x=2; x=6")
	wantMatches(t, "num(x) :- num(x), !edge(x, x * x).", "num(1) num(2) num(3) edge(1,1) edge(2,5) edge(3,9)", "x=2")
	wantMatches(t, "num(x) :- num(x), !edge(x * x, x + 1).", "num(1) num(2) num(3) edge(1,2) edge(4,4) edge(1,3) edge(9,4)", "x=2")
	wantMatches(t, "num(x) :- num(x), !list(Cons(x - 1, Cons(x, _))).", "num(1) num(2) num(3) list(Cons(0,Cons(1,Nil))) list(Cons(1,Nil)) list(Cons(2,Cons(3,Cons(4,Nil))))", "x=2")
	wantMatches(t, "num(x) :- num(x), !list(Cons(x + 1, Cons(_, Cons(x + 2, Nil)))).", "num(1) num(2) list(Cons(2,Cons(9,Cons(3,Nil)))) list(Cons(3,Cons(9,Cons(3,Nil))))", "x=2")
	wantMatches(t, "none() :- !num(1 + 1).", "num(1) num(3)", "")
	wantMatches(t, "none() :- !num(1 + 1).", "num(2)", "none")
	// Its names come from an equation.
	wantMatches(t, "edge(x, y) :- !num(y), y = x + 1, num(x).", "num(1) num(2) num(4)", "x=2 y=3; x=4 y=5")
	wantMatches(t, "sym(\"a\") :- !num(y), !edge(x, y), y = x * x, num(x).", "num(2) num(3) num(4) num(5) num(16) edge(3,9)", "y=25 x=5; y=256 x=16")
	// A relation without rows.
	wantMatches(t, "num(x) :- num(x), !edge(x * x, x).", "num(1) num(1000000)", "x=1; x=1000000")
}
