package tests

import (
	"strings"
	"testing"

	"loop.example/g00531/impl"
)

// listTerm is a list whose term has n bytes, for an n that is 40 or more.
func listTerm(n int) string {
	more := n - len("Nil")
	text := "Nil"
	for more > 0 {
		digits := 1
		if rest := more % len("Cons(1,)"); rest > 0 && rest < impl.MaxName/4 {
			digits += rest
		} else if rest > 0 {
			digits += rest - 3 // the other three go into the next one
		}
		text = "Cons(" + strings.Repeat("1", digits) + "," + text + ")"
		more = n - len(text)
	}
	return text
}

func TestListTermsHaveTheLengthThatIsAskedFor(t *testing.T) {
	for n := 40; n <= impl.MaxTerm+8; n++ {
		s := listTerm(n)
		if len(s) != n || n <= impl.MaxTerm && !hasType(parsed(t, declarations), s, "List") {
			t.Errorf("%s has %d bytes", s, len(s))
		}
	}
}

func TestNumbersThatAreTooGreat(t *testing.T) {
	for _, list := range [][3]string{
		{"x + y", "edge(999999,1)", "edge(1000000,1)"}, {"x + y", "edge(-999999,-1)", "edge(-999999,-2)"}, {"x - y", "edge(-999999,1)", "edge(-1000000,1)"}, {"x - y", "edge(999999,-1)", "edge(999999,-2)"},
		{"x * y", "edge(1000,1000)", "edge(1001,1000)"}, {"x * y", "edge(-1000,1000)", "edge(1000,-1001)"}, {"x * y", "edge(1000000,-1)", "edge(1000000,1000000)"}, {"x * y", "edge(-1000,-1000)", "edge(-1001,-1001)"},
		{"x + y - y", "edge(1000000,0)", "edge(1000000,1)"}, {"x * 2 - x - y", "edge(500000,1)", "edge(500001,1)"}, {"1 - (x * y - x)", "edge(1,7)", "edge(1000000,2)"},
	} {
		exp, within, over := list[0], list[1], list[2]
		for _, body := range []string{"edge(x, y), z = EXP", "z = EXP, edge(x, y)", "edge(x, y), EXP = z", "edge(x, y), EXP != 7", "edge(x, y), 7 != EXP", "edge(x, y), EXP < 2000 * 500", "edge(x, y), -1000000 <= EXP", "edge(x, y), EXP = EXP", "edge(x, y), !num(EXP), sym(_)", "edge(x, y), !list(Cons(EXP, Nil))", "edge(x, y), z = Cons(EXP, Nil)", "edge(x, y), Cons(EXP, l) = Cons(z, l), l = Nil"} {
			rule := "none() :- " + strings.ReplaceAll(body, "EXP", "("+exp+")") + "."
			p := parsed(t, declarations+rule)
			others := ` num(123) list(Cons(123,Nil)) sym("a")`
			if list, code := impl.Matches(p, 0, dbOf(t, p, within+others)); code != impl.FrOK || len(list) > 1 {
				t.Errorf("Matches of %s with %s = %v, %d", rule, within, list, code)
			}
			wantOver(t, rule, over+others)
			wantOver(t, rule, within+" "+over+others)
			wantMatches(t, rule, others, "none")
		}
		// A sum that waits, whatever the row has there.
		wantOver(t, "none() :- edge(x, y), num("+exp+").", over+" num(1)")
		wantOver(t, "none() :- num("+exp+"), edge(x, y).", over+" num(1)")
		wantOver(t, "none() :- list(Cons("+exp+", Cons(2, _))), edge(x, y).", over+" list(Cons(1,Cons(2,Nil)))")
		wantMatches(t, "none() :- list(Cons("+exp+", Cons(2, _))), edge(x, y).", over+" list(Cons(1,Cons(3,Nil))) list(Nil)", "none")
	}
}

func TestTermsThatAreTooLong(t *testing.T) {
	within, over := listTerm(impl.MaxTerm-8), listTerm(impl.MaxTerm-7)
	for _, body := range []string{"list(l), k = Cons(1, l)", "k = Cons(1, l), list(l)", "list(l), Cons(1, l) = k", "list(l), Nil != Cons(1, l)", "list(l), Cons(1, l) != Nil", "list(l), Cons(1, l) = Cons(1, l)", "list(l), Cons(1, m) = Cons(1, l)", "list(l), !tree(Of(k)), k = Cons(1, l)"} {
		rule := "none() :- " + body + "."
		p := parsed(t, declarations+rule)
		if list, code := impl.Matches(p, 0, dbOf(t, p, "list("+within+")")); code != impl.FrOK || len(list) != 1 {
			t.Errorf("Matches of %s = %v, %d", rule, list, code)
		}
		wantOver(t, rule, "list("+over+")")
		wantOver(t, rule, "list("+within+") list("+over+")")
	}
	// What is not reckoned, but fitted, is not too long.
	wantMatches(t, "none() :- list(l), !tree(Of(Cons(1, l))).", "list("+over+") tree(Of(Nil)) tree(Leaf)", "l="+over)
	wantMatches(t, "num(x) :- list(k), tree(Of(l)), k = Cons(x, l).", "list("+listTerm(impl.MaxTerm)+") tree(Of(Nil))", "none")
	// Known as a whole, each side is reckoned.
	wantOver(t, "none() :- list(k), list(l), k = Cons(1, l).", "list(Nil) list("+over+")")
	wantOver(t, "none() :- list(k), list(l), Cons(1, l) = k.", "list(Nil) list("+over+")")
}

// TestWhatIsMetFirst tells whether there is no way or FrOver: 1 + 1000000 is over,
// as what asks for x of num(1).
func TestWhatIsMetFirst(t *testing.T) {
	one := "num(1) edge(1,1)"
	for _, body := range []string{
		// A sum that waits is ahead of all that compares and of what is not there.
		"edge(x, x + 1000000), x < 0", "x < 0, edge(x, x + 1000000)", "!num(x), 1 = 2, edge(x, x + 1000000)", "x = 2, edge(x, x + 1000000)",
		"num(x + 1000000), edge(x, x + 1)", "edge(x + 1000000, x + 1), num(x)", "list(l), num(x + 1000000), num(x), l = Nil, x = 9",
		// In the order of the Body.
		"num(x), x + 1000000 < 0, x < 0", "x + 1000000 < 0, x < 0, num(x)", "num(x), x + 1000000 != 0, !num(x)", "num(x), !num(x + 1000000), x < 0", "num(x), y = x + 1000000, x < 0",
		"num(x), y = 2, x + 1000000 < y, y = x", "num(x), Cons(x + 1000000, Nil) != Nil, 1 < 0",
		// From the beginning again, when an equation has given values.
		"y + 1000000 < 0, num(x), y = x, x < 0", "num(x), num(y + 1000000), y = x, x < 0", "num(y + 1000000), y = x, num(x), y = 9", "!num(z + 1000000), y + 5 = 6, z = y, y = x, 1 = 2, num(x)",
		"z + 1000000 = 7, z = y, y = x, num(x), x = 9", "z = w + 1000000, y = x, w = y, num(x), w = 9",
	} {
		wantOver(t, "none() :- "+body+".", one+" list(Nil)")
	}
	for _, body := range []string{
		"edge(x, x + 1), edge(x + 1000000, x)", "edge(x + 1, x + 1000000), num(x)", "num(x + 1), edge(x, x + 1000000)",
		"num(x), x < 0, x + 1000000 < 0", "x < 0, num(x), x + 1000000 = 5", "num(x), !num(x), x + 1000000 != 0", "num(x), x = 9, y = x + 1000000", "num(x), x <= 0, !num(x + 1000000)",
		"edge(x, 2), num(x + 1000000)", "num(x), y < 0, y = x, x + 1000000 < 0", "y < 0, y = x, x + 1000000 < 0, num(x)", "num(x), y + 1000000 < 0, x < 0, y = x", "num(x), !num(y + 1000000), x = 9, y = x",
		"num(x), num(y + 1000000), x < 0, y = x", "num(x), num(y + 1), y = x, x + 1000000 < 0", "num(y + 1000000), 1 = 2, y = x, num(x)", "Nil = Cons(y, l), num(y + 1000000)",
	} {
		wantMatches(t, "none() :- "+body+".", one+" list(Nil)", "none")
	}
}

// TestOverInWhatIsNotThere: of a row the places whose exp is a pattern come first,
// and a sum is reckoned only when a row gets that far. 1001 times itself is over.
func TestOverInWhatIsNotThere(t *testing.T) {
	for _, list := range [][3]string{
		// A literal, rows of which all do not get as far as the sum, and one that does.
		{"!edge(x, x * x)", "edge(1,1) edge(1000,1001) edge(1002,1)", "edge(1001,1)"}, {"!edge(x * x, x)", "edge(1,1) edge(1001,1000) edge(1001,1002)", "edge(1,1001)"},
		{"!edge(5, x * x)", "edge(4,1) edge(6,1)", "edge(5,1)"}, {"!edge(x * x, 5)", "edge(1,4) edge(1,6)", "edge(1,5)"}, {"!edge(_, x * x)", "", "edge(1,1)"}, {"!num(x * x)", "", "num(2)"},
		{"!list(Cons(x * x, Nil))", "list(Nil)", "list(Cons(1,Nil))"}, {"!list(Cons(x * x, Nil))", "", "list(Cons(1,Cons(2,Nil)))"}, {"!list(Cons(5, Cons(x * x, _)))", "list(Cons(4,Cons(1,Nil))) list(Cons(5,Nil))", "list(Cons(5,Cons(1,Nil)))"},
		{"!tree(Node(Leaf, _, Of(Cons(x * x, _))))", `tree(Node(Leaf,"a",Leaf)) tree(Node(Of(Nil),"a",Of(Cons(1,Nil)))) tree(Node(Leaf,"a",Of(Nil))) tree(Of(Cons(1,Nil)))`, `tree(Node(Leaf,"a",Of(Cons(1,Nil))))`},
		{"!many(x * x, \"a\", _, Of(_), x, _)", `many(1,"b",Nil,Of(Nil),1001,"c") many(1,"a",Nil,Leaf,1001,"c") many(1,"a",Nil,Of(Nil),1000,"c")`, `many(1,"a",Nil,Of(Nil),1001,"c")`},
		{"!many(_, _, Cons(x * x, _), Of(Nil), x, \"c\")", `many(1,"b",Cons(1,Nil),Of(Cons(1,Nil)),1001,"c") many(1,"a",Nil,Of(Nil),1001,"c") many(1,"a",Cons(1,Nil),Of(Nil),1000,"c") many(1,"a",Cons(1,Nil),Of(Nil),1001,"")`, `many(1,"a",Cons(1,Nil),Of(Nil),1001,"c")`},
		// Of two places with sums the first one tells, where it does not fit.
		{"!edge(x + 1, x * x)", "edge(1,1) edge(1001,1)", "edge(1002,1)"}, {"!edge(x * x, x + 1)", "", "edge(1,2)"}, {"!many(x - 1, _, Cons(x * x, _), _, _, _)", `many(1001,"a",Cons(1,Nil),Leaf,1,"a")`, `many(1000,"a",Cons(1,Nil),Leaf,1,"a")`},
	} {
		lit, facts, more := list[0], list[1]+" name(1001,\"n\")", list[2]
		wantMatches(t, "none() :- name(x, _), "+lit+".", facts, "x=1001")
		wantOver(t, "none() :- name(x, _), "+lit+".", facts+" "+more)
		wantOver(t, "none() :- "+lit+", name(x, _).", more+" name(1001,\"n\")")
		// Another x of the same rule is well.
		wantMatches(t, "none() :- name(x, _), "+lit+".", more+" name(3,\"n\")", "x=3")
		wantOver(t, "none() :- name(x, _), "+lit+".", facts+" "+more+" name(3,\"n\")")
	}
	// A row that fits is met ahead of the next literal, one that does not is not.
	wantMatches(t, "none() :- name(x, _), !edge(x, _), !num(x * x).", `name(1001,"n") edge(1001,1) num(1)`, "none")
	wantOver(t, "none() :- name(x, _), !edge(x, _), !num(x * x).", `name(1001,"n") edge(1000,1) num(1)`)
}
