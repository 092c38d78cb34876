package tests

import (
	"slices"
	"strings"
	"testing"

	"loop.example/g00531/impl"
)

// wantStrata wants a program with these strata, which is Ready then.
func wantStrata(t *testing.T, p impl.Prog, want ...int) {
	t.Helper()
	if got, ok := impl.Strata(p); !slices.Equal(got, want) || !ok {
		t.Errorf("Strata(%.3000s) = %v, %v, want %v", impl.ProgText(p), got, ok, want)
	}
	if !impl.Ready(p) {
		t.Errorf("%.3000s is not Ready", impl.ProgText(p))
	}
}

// wantRing wants a program that is grounded, and has no strata.
func wantRing(t *testing.T, p impl.Prog) {
	t.Helper()
	wantGround(t, p, -1, impl.GrOK)
	if got, ok := impl.Strata(p); len(got) > 0 || ok {
		t.Errorf("Strata(%.3000s) = %v, %v, want nothing", impl.ProgText(p), got, ok)
	}
	if impl.Ready(p) {
		t.Errorf("%.3000s is Ready", impl.ProgText(p))
	}
}

// digits are strata, one a digit.
func digits(s string) []int {
	var list []int
	for _, digit := range s {
		list = append(list, int(digit-'0'))
	}
	return list
}

type strataCase struct{ names, rules, want string }

// wantStrataOf has the rules in the order that is given, and in the other one.
func wantStrataOf(t *testing.T, list []strataCase) {
	t.Helper()
	for _, c := range list {
		wantStrata(t, lettered(t, c.names, c.rules), digits(c.want)...)
		wantStrata(t, lettered(t, c.names, turned(c.rules)), digits(c.want)...)
	}
}

func turned(ruleWords string) string {
	list := words(ruleWords)
	slices.Reverse(list)
	return strings.Join(list, " ")
}

func TestStrataWithoutLtNot(t *testing.T) {
	wantStrataOf(t, []strataCase{
		{"a", "", "0"}, {"abcd", "", "0000"}, {"a", "a", "0"}, {"ab", "ab", "00"}, {"ab", "ba", "00"}, {"abc", "ab bc", "000"}, {"abcd", "abcd bcd cd d", "0000"},
		// Rings.
		{"a", "aa", "0"}, {"ab", "ab ba", "00"}, {"abc", "ab bc ca", "000"}, {"abcd", "ab bc cd db", "0000"}, {"abcd", "ab ba cd dc ac", "0000"}, {"abcde", "aabcde babcde cabcde dabcde eabcde", "00000"},
	})
}

func TestStrataWithLtNot(t *testing.T) {
	wantStrataOf(t, []strataCase{
		{"ab", "a!b", "10"}, {"ab", "b!a", "01"}, {"abc", "a!b!c", "100"}, {"abc", "a!b c!b", "101"}, {"abcd", "a!b c!d", "1010"},
		// Relations that no rule names have 0, wherever they stand.
		{"abc", "a!c", "100"}, {"abc", "c!a", "001"}, {"abcde", "d!b", "00010"},
		// The same pair with Neg and without.
		{"ab", "ab!b", "10"}, {"ab", "a!b ab", "10"}, {"ab", "ab a!b", "10"},
		// A relation in a ring of its own asks for what is not there.
		{"ab", "aa!b", "10"}, {"ab", "aa bb a!b", "10"}, {"ab", "aab!b", "10"},
	})
}

// TestLtNotsOneBehindTheOther has a stratum for each, however the relations and
// rules are in order, and none for what is asked for being there.
func TestLtNotsOneBehindTheOther(t *testing.T) {
	wantStrataOf(t, []strataCase{
		{"abc", "a!b b!c", "210"}, {"cba", "a!b b!c", "012"}, {"bca", "a!b b!c", "102"}, {"abcde", "a!b b!c c!d d!e", "43210"}, {"edcba", "a!b b!c c!d d!e", "01234"}, {"cadbe", "d!e b!c a!b c!d", "24130"},
		{"abcd", "a!b bc c!d", "2110"}, {"abcd", "ab b!c cd", "1100"}, {"abcde", "ab b!c cd d!e", "22110"}, {"abcdef", "a!b bc cd d!e ef", "211100"},
		// A ring in the row, above it and below.
		{"abc", "aa a!b bb b!c cc", "210"}, {"abcd", "ab ba a!c cd dc", "1100"}, {"abcd", "ab ba b!c cd dc", "1100"}, {"abcdef", "ab ba b!c cd dc d!e ef fe", "221100"}, {"abcdef", "ab bc ca c!d de ef fd", "111000"}, {"abcd", "a!b bc cb c!d", "2110"},
	})
}

// TestTheGreatestOfSeveralWaysCounts: a relation leads to another one along ways
// with more and with fewer LtNot.
func TestTheGreatestOfSeveralWaysCounts(t *testing.T) {
	wantStrataOf(t, []strataCase{
		{"abc", "abc b!c", "110"}, {"abc", "ab!c bc", "100"}, {"abc", "a!b a!c b!c", "210"}, {"abc", "a!c a!b b!c", "210"}, {"abcd", "a!d ab b!c c!d", "2210"}, {"abcd", "ab ac b!d cd", "1100"}, {"abcd", "ab!c b!d cd", "1100"}, {"abcd", "ab!c bd c!d", "2010"},
		{"abcd", "a!bc bd c!d", "1010"}, {"abcd", "a!b!c b!d c!d", "2110"}, {"abcde", "a!b ac c!d d!e be", "20210"}, {"abcde", "a!bcde b!cde c!de d!e", "43210"}, {"abcde", "abcd!e b!cde cd!e d!e", "22110"},
	})
}

func TestRingsWithLtNot(t *testing.T) {
	for _, c := range []struct{ names, rules string }{
		// Of one relation.
		{"a", "a!a"}, {"a", "aa!a"}, {"a", "a!a aa"}, {"ab", "b!b"}, {"abc", "a b!b c"}, {"abc", "ab c!c"},
		// Of two.
		{"ab", "a!b ba"}, {"ab", "ab b!a"}, {"ab", "a!b b!a"}, {"ab", "ab ba a!b"}, {"ab", "ab!b ba"}, {"abc", "c!a ac"}, {"abcd", "ab!c c!dbd da c!a"},
		// Of more.
		{"abc", "a!b bc ca"}, {"abc", "ab b!c ca"}, {"abc", "ab bc c!a"}, {"abc", "a!b b!c c!a"}, {"abcd", "ab bc cd d!a"}, {"abcd", "a!b bc c!d da"}, {"abcdef", "ab bc cd de ef f!a"}, {"abcdef", "a!b b!c c!d d!e e!f f!a"}, {"abcd", "ab ba bc cb cd dc d!a"},
		// A LtNot across a ring that has none itself.
		{"abcd", "ab bc cd da a!c"}, {"abcd", "ab bc cd da c!b"}, {"abcd", "ab bc cd da d!d"},
		// One that is only reached from elsewhere, or from which one only comes elsewhere.
		{"ab", "ab b!b"}, {"ab", "a!b b!b"}, {"abc", "ab b!c cb"}, {"abc", "a!b bc c!b"}, {"abcd", "ab bc c!d dc"}, {"abcde", "ab bc cd d!e ed"}, {"ab", "ab a!a"}, {"abc", "ab b!a bc"}, {"abcd", "a!b ba ac cd"}, {"abcde", "ab b!c cd!d de e!d"},
		// One beside relations that could have their numbers.
		{"abcd", "a!b c!d dc"}, {"abcde", "a!b b!c de e!d"}, {"abcdef", "a!b b!c c!d ef f!e"},
	} {
		wantRing(t, lettered(t, c.names, c.rules))
		wantRing(t, lettered(t, c.names, turned(c.rules)))
	}
}

// TestALtNotBetweenTwoRings is in neither of them.
func TestALtNotBetweenTwoRings(t *testing.T) {
	wantStrata(t, lettered(t, "abcd", "ab ba cd dc a!c b!d"), 1, 1, 0, 0)
	wantRing(t, lettered(t, "abcd", "ab ba cd dc a!c b!d ca"))
	wantRing(t, lettered(t, "abcd", "ab ba cd dc a!c b!d db"))
	wantStrata(t, lettered(t, "abcde", "ab ba cd dc e!a a!c"), 1, 1, 0, 0, 2)
}

// TestStrataOfRulesWithTypes has literals whose terms have nothing to do with the
// strata: a row that a LtNot could never fit counts as well.
func TestStrataOfRulesWithTypes(t *testing.T) {
	for _, c := range []struct{ rules, want string }{
		{"", "00000000"},
		{"num(x) :- edge(x, _), !name(x, \"a\").", "01000000"},
		{"edge(1, 2) :- !edge(3, 4).", "ring"},
		{"edge(x, y) :- edge(y, x), !num(x), x < y. num(x) :- x = 1, !name(x, _).", "01000200"},
		{"none() :- num(x), 1 < 2, 1 != x. num(1) :- none(). sym(\"a\") :- !none().", "00100000"},
		{"none() :- !num(1). num(2) :- none().", "ring"},
		{"list(Cons(x, l)) :- list(l), num(x), !tree(Of(l)). tree(Leaf) :- !sym(\"a\"). many(1, \"a\", l, Leaf, 2, \"b\") :- list(l), !list(Cons(1, l)).", "00021003"},
		{"tree(Of(l)) :- list(l), !tree(Leaf).", "ring"},
	} {
		if p := parsed(t, declarations+c.rules); c.want == "ring" {
			wantRing(t, p)
		} else {
			wantStrata(t, p, digits(c.want)...)
		}
	}
}

// TestProgramsOfNoRelation are Ready, and have nothing that could have a stratum.
func TestProgramsOfNoRelation(t *testing.T) {
	for _, p := range []impl.Prog{{}, {Types: []impl.TypeDecl{}, Rels: []impl.RelDecl{}, Rules: []impl.Rule{}}, parsed(t, "// nothing"), parsed(t, "type T = A | B(T).")} {
		wantDepList(t, p, nil)
		wantStrata(t, p)
		for a := -1; a <= 1; a++ {
			for b := -1; b <= 1; b++ {
				wantTogether(t, p, a, b, false)
			}
		}
	}
	wantNothing(t, "a rule of no relation", parsed(t, "p()."))
	wantNothing(t, "a ring of no relation", parsed(t, "p() :- !p()."))
}

// allLetters are names for as many relations as there may be.
func allLetters() string { return "abcdefghijklmnopqrstuvwxyz"[:impl.MaxRels] }

// rulesInRow are those by which each letter asks for the next one, with the sign
// ahead.
func rulesInRow(letters, sign string) string {
	var list []string
	for i := 1; i < len(letters); i++ {
		list = append(list, letters[i-1:i]+sign+letters[i:i+1])
	}
	return strings.Join(list, " ")
}

func TestAsManyRelationsAsThereMayBe(t *testing.T) {
	names := allLetters()
	first, last := names[:1], names[len(names)-1:]
	falling, none := make([]int, len(names)), make([]int, len(names))
	for i := range falling {
		falling[i] = len(names) - 1 - i
	}
	wantStrata(t, lettered(t, names, ""), none...)
	for _, order := range []func(string) string{func(s string) string { return s }, turned} {
		wantStrata(t, lettered(t, names, order(rulesInRow(names, "!"))), falling...)
		wantStrata(t, lettered(t, names, order(rulesInRow(names, ""))), none...)
		wantStrata(t, lettered(t, names, order(rulesInRow(names, "")+" "+last+first)), none...)
		wantRing(t, lettered(t, names, order(rulesInRow(names, "!")+" "+last+first)))
		wantRing(t, lettered(t, names, order(rulesInRow(names, "!")+" "+last+"!"+first)))
		wantRing(t, lettered(t, names, order(rulesInRow(names, "")+" "+last+"!"+first)))
		wantRing(t, lettered(t, names, order(rulesInRow(names, "!")+" "+last+"!"+last)))
	}
	// A row of LtNot over a pair that is a ring has one number less.
	below := names[len(names)-2 : len(names)-1]
	wantStrata(t, lettered(t, names, rulesInRow(names[:len(names)-1], "!")+" "+below+last+" "+last+below), append(falling[1:], 0)...)
	// One more is too many.
	wantNothing(t, "too many relations", impl.Prog{Rels: append(lettered(t, names, "").Rels, impl.RelDecl{Name: "other"})})
}

// TestAsManyDepsAsThereMayBe has as many rules with as many literals, no two alike.
func TestAsManyDepsAsThereMayBe(t *testing.T) {
	names := allLetters()
	var list []string
	var want []impl.Dep
	for i := range impl.MaxRules {
		word := names[i/2 : i/2+1]
		for j := range impl.MaxBody {
			n := i%2*impl.MaxBody + j
			dep := impl.Dep{From: i / 2, To: n % len(names), Neg: n >= len(names)}
			if dep.Neg {
				word += "!"
			}
			word += names[dep.To : dep.To+1]
			want = append(want, dep)
		}
		list = append(list, word)
	}
	p := lettered(t, names, strings.Join(list, " "))
	wantDepList(t, p, want)
	wantRing(t, p)
	wantTogether(t, p, 0, len(names)-1, true)
	q := lettered(t, names, strings.ReplaceAll(strings.Join(list, " "), "!", ""))
	wantStrata(t, q, make([]int, len(names))...)
}
