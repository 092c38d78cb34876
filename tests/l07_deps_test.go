package tests

import (
	"slices"
	"strings"
	"testing"

	"loop.example/g00531/impl"
)

// lettered is a program whose relations have no places and a letter each as their
// names. A word is a rule: its first letter is the head's, the others those of the
// literals, with `!` ahead of a LtNot.
func lettered(t *testing.T, names, ruleWords string) impl.Prog {
	t.Helper()
	var s strings.Builder
	for _, name := range names {
		s.WriteString("rel " + string(name) + "().\n")
	}
	for _, word := range words(ruleWords) {
		s.WriteString(word[:1] + "()")
		sign, not := " :- ", ""
		for _, letter := range word[1:] {
			if letter == '!' {
				not = "!"
				continue
			}
			s.WriteString(sign + not + string(letter) + "()")
			sign, not = ", ", ""
		}
		s.WriteString(".\n")
	}
	return parsed(t, s.String())
}

func placeOf(p impl.Prog, name string) int {
	return slices.IndexFunc(p.Rels, func(d impl.RelDecl) bool { return d.Name == name })
}

func wantDepList(t *testing.T, p impl.Prog, want []impl.Dep) {
	t.Helper()
	if got := impl.Deps(p); !slices.Equal(got, want) {
		t.Errorf("Deps(%.3000s) = %v, want %v", impl.ProgText(p), got, want)
	}
}

// wantDeps wants Deps between relations that have a letter each as their names:
// `ab`, or `a!b` of one that is Neg.
func wantDeps(t *testing.T, p impl.Prog, depWords string) {
	t.Helper()
	var want []impl.Dep
	for _, word := range words(depWords) {
		want = append(want, impl.Dep{From: placeOf(p, word[:1]), To: placeOf(p, word[len(word)-1:]), Neg: len(word) == 3})
	}
	wantDepList(t, p, want)
}

// wantNothing wants what chapters 7 and 8 say of a program that is not grounded.
func wantNothing(t *testing.T, what string, p impl.Prog) {
	t.Helper()
	if _, code := impl.CheckGround(p); code == impl.GrOK {
		t.Errorf("%s: the program is grounded", what)
	}
	if got := impl.Deps(p); len(got) > 0 {
		t.Errorf("%s: Deps = %v", what, got)
	}
	if got, ok := impl.Strata(p); len(got) > 0 || ok {
		t.Errorf("%s: Strata = %v, %v", what, got, ok)
	}
	if impl.Ready(p) {
		t.Errorf("%s: the program is Ready", what)
	}
	if got := impl.GraphsOf(p); len(got) > 0 || impl.Ends(p) {
		t.Errorf("%s: GraphsOf = %v, Ends = %v", what, got, impl.Ends(p))
	}
	for _, a := range []int{-1, 0, len(p.Rels) - 1, len(p.Rels)} {
		if impl.Together(p, a, a) || impl.Together(p, a, 0) || impl.Together(p, 0, a) {
			t.Errorf("%s: relation %d is Together with itself or 0", what, a)
		}
	}
}

func TestDepsInOrder(t *testing.T) {
	for _, c := range []struct{ names, rules, want string }{
		// The literals of one body, as they stand.
		{"ab", "ab", "ab"}, {"ab", "ba", "ba"}, {"abc", "abc", "ab ac"}, {"abc", "acb", "ac ab"}, {"abcd", "dcab", "dc da db"}, {"abcd", "bdca", "bd bc ba"},
		{"ab", "a!b", "a!b"}, {"abc", "a!bc", "a!b ac"}, {"abc", "ac!b", "ac a!b"}, {"abcd", "a!d!b!c", "a!d a!b a!c"}, {"abcd", "ad!bc", "ad a!b ac"},
		// The rules, as they stand.
		{"abc", "ab bc", "ab bc"}, {"abc", "bc ab", "bc ab"}, {"abc", "cb ca bc ba", "cb ca bc ba"}, {"abc", "ac bc ab", "ac bc ab"}, {"abcd", "dc!b a!dc c!d", "dc d!b a!d ac c!d"},
		// The relations, whatever the order of their declarations.
		{"cba", "ab bc", "ab bc"}, {"bca", "abc c!a", "ab ac c!a"},
	} {
		wantDeps(t, lettered(t, c.names, c.rules), c.want)
	}
}

// TestEachDepOnce has a Dep again in one rule, in another one, and beside others.
func TestEachDepOnce(t *testing.T) {
	for _, c := range []struct{ names, rules, want string }{
		{"ab", "abb", "ab"}, {"ab", "abbbbb", "ab"}, {"ab", "ab ab", "ab"}, {"ab", "ab ab ab", "ab"}, {"ab", "a!b!b", "a!b"}, {"ab", "a!b a!b", "a!b"},
		{"abc", "abcb", "ab ac"}, {"abc", "abc ac ab", "ab ac"}, {"abc", "abc acb", "ab ac"}, {"abc", "ab ac ab", "ab ac"}, {"abc", "a!bc!b", "a!b ac"}, {"abc", "ab bc ab ca bc", "ab bc ca"},
		// Where it comes first, not where it comes last.
		{"abcd", "ab ac ad ab", "ab ac ad"}, {"abcd", "ad ab ac abd", "ad ab ac"}, {"abcd", "bc a!d bcd a!cd", "bc a!d bd a!c ad"},
	} {
		wantDeps(t, lettered(t, c.names, c.rules), c.want)
	}
}

// TestADepWithNegAndWithoutAreTwo: neither takes the other's place.
func TestADepWithNegAndWithoutAreTwo(t *testing.T) {
	for _, c := range []struct{ names, rules, want string }{
		{"ab", "ab!b", "ab a!b"}, {"ab", "a!bb", "a!b ab"}, {"ab", "ab a!b", "ab a!b"}, {"ab", "a!b ab", "a!b ab"}, {"ab", "ab!bb!b", "ab a!b"}, {"ab", "a!bb!bb ab!b", "a!b ab"},
		{"abc", "ab c!b a!bc", "ab c!b a!b ac"}, {"a", "aa!a", "aa a!a"}, {"a", "a!a aa", "a!a aa"}, {"ab", "ab!b ba!a", "ab a!b ba b!a"},
	} {
		wantDeps(t, lettered(t, c.names, c.rules), c.want)
	}
}

// TestADepHasItsDirection: from the head, and the other way round is another one.
func TestADepHasItsDirection(t *testing.T) {
	for _, c := range []struct{ names, rules, want string }{
		{"ab", "ab ba", "ab ba"}, {"ab", "ba ab", "ba ab"}, {"ab", "a!b ba", "a!b ba"}, {"abc", "ab bc ca", "ab bc ca"}, {"abc", "ab ac", "ab ac"}, {"abc", "ba ca", "ba ca"}, {"ab", "ab ba ab ba", "ab ba"},
		// A relation that asks for itself.
		{"a", "aa", "aa"}, {"a", "a!a", "a!a"}, {"a", "aaa aa", "aa"}, {"ab", "aa bb", "aa bb"}, {"ab", "b!b aab", "b!b aa ab"}, {"abc", "aba", "ab aa"},
	} {
		wantDeps(t, lettered(t, c.names, c.rules), c.want)
	}
}

func TestFactsAndComparisonsHaveNoDep(t *testing.T) {
	for _, c := range []struct{ names, rules, want string }{
		{"", "", ""}, {"a", "", ""}, {"abc", "", ""}, {"a", "a", ""}, {"abc", "a b c a", ""}, {"ab", "a ab b", "ab"}, {"abc", "c bc a", "bc"},
	} {
		wantDeps(t, lettered(t, c.names, c.rules), c.want)
	}
	for _, c := range []struct{ rules, want string }{
		{"p(1).", ""}, {"p(1 + 2). q(3).", ""}, {"p(1) :- 1 < 2.", ""}, {"p(x) :- x = 1.", ""}, {"p(x) :- x = 1, x != 2, x <= 3, 2 = 2.", ""},
		{"p(x) :- x = 1, q(x), x < 2.", "pq"}, {"p(x) :- q(x), x = y, y <= 2, !p(y).", "pq p!p"}, {"q(p) :- p = q, p(q).", "qp"}, {"p(x) :- 1 != 2, !q(3), x = 4.", "p!q"},
	} {
		wantDeps(t, parsed(t, "rel p(number). rel q(number).\n"+c.rules), c.want)
	}
}

// TestDepsAreToldByPlacesInRels has places of relations that differ from the order
// in which the rules name them, and relations that no rule names.
func TestDepsAreToldByPlacesInRels(t *testing.T) {
	dep := func(from, to int) impl.Dep { return impl.Dep{From: from, To: to} }
	neg := func(from, to int) impl.Dep { return impl.Dep{From: from, To: to, Neg: true} }
	for _, c := range []struct {
		rules string
		want  []impl.Dep
	}{
		{"", nil},
		{"num(1). sym(\"a\").", nil},
		{"num(x) :- edge(x, _).", []impl.Dep{dep(1, 5)}},
		{"edge(x, x) :- num(x).", []impl.Dep{dep(5, 1)}},
		{"none() :- !many(_, _, _, _, _, _).", []impl.Dep{neg(0, 7)}},
		{"many(x, s, l, tr, x, s) :- tree(tr), name(x, s), list(l), !edge(x, 1), !num(x), x < 3.", []impl.Dep{dep(7, 4), dep(7, 6), dep(7, 3), neg(7, 5), neg(7, 1)}},
		{"list(Cons(x, l)) :- list(l), num(x). num(x) :- list(Cons(x, _)), !none(). tree(Of(l)) :- list(l), !tree(Of(l)).", []impl.Dep{dep(3, 3), dep(3, 1), dep(1, 3), neg(1, 0), dep(4, 3), neg(4, 4)}},
		{"edge(x, y) :- edge(y, x), edge(x, x + 1), !edge(y, y), edge(_, y).", []impl.Dep{dep(5, 5), neg(5, 5)}},
	} {
		wantDepList(t, parsed(t, declarations+c.rules), c.want)
	}
	// The declarations may stand behind the rules.
	wantDepList(t, parsed(t, "p(x) :- q(x), !r(x). rel r(number). rel p(number). rel q(number)."), []impl.Dep{dep(1, 2), neg(1, 0)})
}

// TestModesDoNotMatterToDeps: not even to a relation with MdInput that has rules.
func TestModesDoNotMatterToDeps(t *testing.T) {
	for _, mode := range []string{"", " input", " output", " inline"} {
		p := parsed(t, "rel a()"+mode+". rel b()"+mode+". rel c()"+mode+". a() :- b(), !c(). b() :- b().")
		wantDeps(t, p, "ab a!c bb")
		wantStrata(t, p, 1, 0, 0)
	}
}

// TestNothingOfAProgramThatIsNotGrounded has each code of CheckGround, in programs
// that would have Deps otherwise, and none of which is in a ring.
func TestNothingOfAProgramThatIsNotGrounded(t *testing.T) {
	for what, p := range unsoundProgs() {
		wantNothing(t, what, p)
	}
	for _, s := range append(typeFaults(), relFaults()...) {
		wantNothing(t, s, parsed(t, s))
		wantNothing(t, s, parsed(t, declarations+s+"num(x) :- edge(x, _)."))
	}
	for code, list := range literalFaults() {
		for _, lit := range list {
			if code != impl.TyOK {
				wantNothing(t, lit, parsed(t, declarations+"num(x) :- edge(x, _), !sym(\"a\"). none() :- "+lit+"."))
			}
		}
	}
	for _, s := range append(strayAnys(), unboundNames()...) {
		wantNothing(t, s, parsed(t, declarations+s))
		wantNothing(t, s, parsed(t, declarations+"num(x) :- edge(x, _)."+s))
		wantNothing(t, s, parsed(t, declarations+s+"num(x) :- edge(x, _)."))
	}
	for _, p := range []impl.Prog{{Types: make([]impl.TypeDecl, 100000)}, {Rels: make([]impl.RelDecl, 100000)}, {Rules: make([]impl.Rule, 100000)}} {
		wantNothing(t, "very many of nothing", p)
	}
}

// TestAFaultBesideARing: what is not grounded has nothing, whether or not it is in
// a ring.
func TestAFaultBesideARing(t *testing.T) {
	wantNothing(t, "a ring", parsed(t, "rel p(number). p(x) :- !p(x)."))
	wantNothing(t, "a ring behind a fault", parsed(t, "rel p(number). p(x). p(1) :- !p(1)."))
	wantNothing(t, "a ring ahead of a fault", parsed(t, "rel p(number). p(1) :- !p(1). p(_)."))
}
