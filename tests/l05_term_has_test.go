package tests

import (
	"maps"
	"slices"
	"strings"
	"testing"

	"loop.example/g00531/impl"
)

func wantHas(t *testing.T, p impl.Prog, s, name string, want bool) {
	t.Helper()
	if got := impl.TermHas(p, s, name); got != want {
		t.Errorf("TermHas(%.400s, %.60q, %q) = %t, want %t", impl.ProgText(p), s, name, got, want)
	}
}

// wantJust wants the term to have that type and none of the others.
func wantJust(t *testing.T, p impl.Prog, s, name string) {
	t.Helper()
	for _, other := range []string{"number", "symbol", "List", "Tree", "", "Nil", "Number", "list", "num", "List ", "number\n", s} {
		wantHas(t, p, s, other, other == name)
	}
}

func TestTermHas(t *testing.T) {
	p := parsed(t, declarations)
	for _, s := range numbers() {
		wantJust(t, p, s, "number")
	}
	for _, s := range symbols() {
		wantJust(t, p, s, "symbol")
	}
	for _, s := range []string{"Nil", "Cons(1,Nil)", "Cons(-1000000,Cons(0,Cons(7,Nil)))", strings.Repeat("Cons(1,", 24) + "Nil" + strings.Repeat(")", 24)} {
		wantJust(t, p, s, "List")
	}
	for _, s := range []string{"Leaf", "Of(Nil)", "Of(Cons(1,Nil))", `Node(Leaf,"",Leaf)`, `Node(Node(Of(Cons(2,Nil)),"Nil",Leaf),"(,",Of(Nil))`} {
		wantJust(t, p, s, "Tree")
	}
}

func TestTermsThatHaveNoType(t *testing.T) {
	p := parsed(t, declarations)
	wrongCounts := []string{"Nil(1)", "Nil(Nil)", "Cons", "Cons(1)", "Cons(Nil)", "Cons(1,Nil,Nil)", "Cons(1,2,Nil)", "Leaf(Leaf)", "Of", "Of(Nil,Nil)", "Node", "Node(Leaf)", `Node(Leaf,"a")`, `Node(Leaf,"a",Leaf,Leaf)`}
	wrongArgs := []string{"Cons(Nil,1)", "Cons(Nil,Nil)", "Cons(1,1)", "Cons(1,Leaf)", `Cons("1",Nil)`, "Of(1)", "Of(Leaf)", "Of(Of(Nil))", `Node(Nil,"a",Leaf)`, `Node(Leaf,1,Leaf)`, `Node(Leaf,Leaf,"a")`, `Node(Leaf,"a",Nil)`}
	wrongWithin := []string{"Cons(1,Cons(1,1))", "Cons(1,Cons(1,Leaf))", "Cons(1,Cons(1))", "Cons(1,Nil(1))", "Of(Cons(1,Of(Nil)))", `Node(Leaf,"a",Node(Leaf,1,Leaf))`, `Node(Of(Cons(Nil,Nil)),"a",Leaf)`, "Cons(1,Foo)", "Of(Foo(Nil))"}
	noCons := []string{"Foo", "Foo(1)", "List", "Tree", "List(1,Nil)", "Ni", "Nils", "N", longestName}
	for _, s := range slices.Concat(wrongCounts, wrongArgs, wrongWithin, noCons, noTerms()) {
		wantJust(t, p, s, "no type at all")
	}
	for _, s := range []string{" Nil", "Nil ", "Cons(1, Nil)", "Nil()", "nil", "Cons(01,Nil)", "Cons(-0,Nil)", "Cons(1000001,Nil)", "Cons(1,Nil", "Cons(1,Nil))", "x", "_", "1 + 1", "Cons(x,Nil)", "Cons(_,Nil)"} {
		wantJust(t, p, s, "no type at all")
	}
}

// TestTermHasAtTheLimitOfTerms has a type all of whose terms may be any long.
func TestTermHasAtTheLimitOfTerms(t *testing.T) {
	p := parsed(t, "type T = S(T) | Ab | A(number, T). type U = U(number, number, number, number, number, number).")
	wantHas(t, p, nested(66, "Ab"), "T", true)
	wantHas(t, p, nested(67, "Ab"), "T", false)
	wantHas(t, p, nested(65, "A(1,Ab)"), "T", false)
	wantHas(t, p, nested(64, "A(1,Ab)"), "T", true)
	wantHas(t, p, nested(64, "A(1,A)"), "T", false)
	wantHas(t, p, nested(66, "10"), "T", false)
	wantHas(t, p, nested(100000, "Ab"), "T", false)
	wantHas(t, p, "U(1,2,3,4,5,6)", "U", true)
	wantHas(t, p, "U(1,2,3,4,5)", "U", false)
	wantHas(t, p, "U(1,2,3,4,5,6,7)", "U", false)
	wantHas(t, p, longTerm(impl.MaxTerm), "T", false)
	wantHas(t, p, longTerm(impl.MaxTerm), "U", false)
}

func TestTermHasOfTypesThatHaveNoTerms(t *testing.T) {
	p := parsed(t, "type T = A(T) | B(U). type U = C(T, U).")
	for _, s := range []string{"A", "B", "C", "T", "A(A)", "B(C)", "A(1)", "C(A,B)", "A(T)"} {
		wantJust(t, p, s, "no type at all")
		wantHas(t, p, s, "T", false)
		wantHas(t, p, s, "U", false)
	}
}

// TestTermHasWithoutTypes has the two types that need no declaration.
func TestTermHasWithoutTypes(t *testing.T) {
	for _, p := range []impl.Prog{{}, parsed(t, "rel p(number)."), parsed(t, "type T = T.")} {
		wantJust(t, p, "1", "number")
		wantJust(t, p, `"1"`, "symbol")
		wantJust(t, p, "Nil", "no type at all")
	}
}

// TestTermHasWhereTheDeclarationsAreNotRight is false of each term and type.
func TestTermHasWhereTheDeclarationsAreNotRight(t *testing.T) {
	pairs := [][2]string{{"1", "number"}, {`"a"`, "symbol"}, {"Nil", "List"}, {"Cons(1,Nil)", "List"}, {"Leaf", "Tree"}, {"A", "T"}, {"B", "T"}, {"Nil", "V"}}
	for _, s := range append(typeFaults(), relFaults()...) {
		for _, pair := range pairs {
			wantHas(t, parsed(t, declarations+s), pair[0], pair[1], false)
			wantHas(t, parsed(t, s+declarations), pair[0], pair[1], false)
			wantHas(t, parsed(t, s), pair[0], pair[1], false)
		}
	}
	base := parsed(t, declarations)
	for what, p := range unsoundProgs() {
		q := impl.Prog{Types: append(p.Types, base.Types...), Rels: append(p.Rels, base.Rels...), Rules: p.Rules}
		for _, pair := range pairs {
			if impl.TermHas(p, pair[0], pair[1]) || impl.TermHas(q, pair[0], pair[1]) {
				t.Errorf("%s: TermHas of %s, %s", what, pair[0], pair[1])
			}
		}
	}
}

// TestTermHasWhereARuleHasAFault asks for the declarations alone.
func TestTermHasWhereARuleHasAFault(t *testing.T) {
	for _, list := range literalFaults() {
		for _, lit := range list {
			p := parsed(t, declarations+"none() :- "+lit+".")
			wantJust(t, p, "1", "number")
			wantJust(t, p, "Cons(1,Nil)", "List")
			wantJust(t, p, "Cons(1,Leaf)", "no type at all")
			wantJust(t, p, "Foo", "no type at all")
		}
	}
}

// hasType is TermHas of a program whose declarations are right, told by the parts
// of the term.
func hasType(p impl.Prog, s, name string) bool {
	switch impl.TermKind(s) {
	case impl.TkNone:
		return false
	case impl.TkNum:
		return name == "number"
	case impl.TkSym:
		return name == "symbol"
	}
	con, args := impl.TermParts(s)
	for _, d := range p.Types {
		for _, c := range d.Cons {
			if d.Name != name || c.Name != con || len(c.Types) != len(args) {
				continue
			}
			for i, arg := range args {
				if !hasType(p, arg, c.Types[i]) {
					return false
				}
			}
			return true
		}
	}
	return false
}

// TestTermHasOfAllShortTexts also has that no text has two types, and that each
// type has some of the texts.
func TestTermHasOfAllShortTexts(t *testing.T) {
	p := parsed(t, "type T = A | Ab(T) | A1(number). type U = A0(T) | Ab0(U) | Ab1. type A = AA(A) | A11 | Abb(U).")
	texts := slices.Collect(maps.Keys(shortTerms(6)))
	eachText(4, func(s string) { texts = append(texts, s) })
	found := map[string]int{}
	for _, s := range texts {
		has := 0
		for _, name := range []string{"number", "symbol", "T", "U", "A"} {
			want := hasType(p, s, name)
			wantHas(t, p, s, name, want)
			if want {
				has++
				found[name]++
			}
		}
		if has > 1 {
			t.Errorf("%q has %d types", s, has)
		}
	}
	if len(found) != 5 {
		t.Errorf("just these types have terms: %v", found)
	}
}
