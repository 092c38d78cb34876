package tests

import (
	"math"
	"strings"
	"testing"

	"loop.example/g00531/impl"
)

func wantTogether(t *testing.T, p impl.Prog, a, b int, want bool) {
	t.Helper()
	if impl.Together(p, a, b) != want || impl.Together(p, b, a) != want {
		t.Errorf("Together(%.3000s) of %d and %d is %v, %v the other way round, want %v", impl.ProgText(p), a, b, impl.Together(p, a, b), impl.Together(p, b, a), want)
	}
}

// wantGroups wants just the relations of one word to be Together, each with each.
func wantGroups(t *testing.T, p impl.Prog, groups string) {
	t.Helper()
	for a, from := range p.Rels {
		for b, to := range p.Rels {
			want := false
			for _, word := range words(groups) {
				want = want || strings.Contains(word, from.Name) && strings.Contains(word, to.Name)
			}
			wantTogether(t, p, a, b, want)
		}
	}
}

func TestTogether(t *testing.T) {
	for _, c := range []struct{ names, rules, want string }{
		// With itself alone: of no rule, of a fact, in a ring of its own.
		{"a", "", "a"}, {"abc", "", "a b c"}, {"a", "a", "a"}, {"a", "aa", "a"}, {"a", "a!a", "a"}, {"ab", "aa bb", "a b"}, {"abc", "ab", "a b c"},
		// Along one Dep, in one direction and in both.
		{"ab", "ab", "a b"}, {"ab", "ba", "a b"}, {"ab", "a!b", "a b"}, {"ab", "ab a!b", "a b"}, {"ab", "aab bb", "a b"}, {"ab", "ab ba", "ab"}, {"abc", "ac ca", "ac b"}, {"abc", "bc cb", "a bc"}, {"abc", "aabc cabc", "ac b"},
		// Along Deps that are Neg, one, both and all.
		{"ab", "a!b ba", "ab"}, {"ab", "ab b!a", "ab"}, {"ab", "a!b b!a", "ab"}, {"abc", "a!b b!c c!a", "abc"}, {"abc", "ab b!c ca", "abc"}, {"abcd", "ab b!c cd d!a", "abcd"},
		// Along several.
		{"abc", "ab bc ca", "abc"}, {"abc", "ac cb ba", "abc"}, {"abcd", "ab bc cd da", "abcd"}, {"abcd", "ac ca cb bc bd db", "abcd"}, {"abcdef", "ab bc cd de ef fa", "abcdef"}, {"abcdef", "fe ed dc cb ba af", "abcdef"},
		{"abcd", "ab bc ca ad", "abc d"}, {"abcd", "da ab bc ca", "abc d"}, {"abcde", "ab bc cb cd de ed", "a bc de"}, {"abcde", "ab ba bc cd dc de", "ab cd e"}, {"abcdef", "ab bc ca de ef fd cd", "abc def"}, {"abcdef", "ab bc ca de ef fd cd fa", "abcdef"},
		// Two that lead to one another only in one direction, or to one that both
		// lead to, or from one that leads to both.
		{"abc", "ab bc", "a b c"}, {"abcd", "ab bc cd ad bd", "a b c d"}, {"abc", "ac bc", "a b c"}, {"abc", "ca cb", "a b c"}, {"abcd", "ab ac bd cd", "a b c d"}, {"abcd", "ac bc cd dc", "a b cd"},
	} {
		wantGroups(t, lettered(t, c.names, c.rules), c.want)
		wantGroups(t, lettered(t, c.names, turned(c.rules)), c.want)
	}
}

// TestTogetherOfPlacesThatAreNone: not even such a place with itself.
func TestTogetherOfPlacesThatAreNone(t *testing.T) {
	for _, p := range []impl.Prog{lettered(t, "a", "aa"), lettered(t, "abc", "ab bc ca"), lettered(t, "abc", ""), lettered(t, allLetters(), rulesInRow(allLetters(), ""))} {
		last := len(p.Rels) - 1
		for _, none := range []int{-1, -2, last + 1, last + 2, impl.MaxRels, impl.MaxRels + 1, 1 << 32, math.MaxInt, math.MinInt} {
			if none > last || none < 0 {
				wantTogether(t, p, none, none, false)
				wantTogether(t, p, none, 0, false)
				wantTogether(t, p, none, last, false)
				wantTogether(t, p, none, -none, false)
			}
		}
		wantTogether(t, p, 0, 0, true)
		wantTogether(t, p, last, last, true)
	}
}

// TestWhatLiesBehindTheRelationsIsNone has a relation there.
func TestWhatLiesBehindTheRelationsIsNone(t *testing.T) {
	p := lettered(t, "abc", "ab ba")
	p.Rels = p.Rels[:2]
	wantTogether(t, p, 2, 2, false)
	wantTogether(t, p, 0, 2, false)
	wantTogether(t, p, 0, 1, true)
	wantStrata(t, p, 0, 0)
}

// TestTogetherInARingWithLtNot: such a program is grounded, if not Ready.
func TestTogetherInARingWithLtNot(t *testing.T) {
	p := lettered(t, "abcd", "a!b bc c!a d!d dc")
	wantRing(t, p)
	wantGroups(t, p, "abc d")
}

func TestTogetherOfAllRelations(t *testing.T) {
	names := allLetters()
	last := len(names) - 1
	for _, sign := range []string{"", "!"} {
		row := rulesInRow(names, sign)
		open, ring := lettered(t, names, row), lettered(t, names, row+" "+names[last:]+names[:1])
		for a := range names {
			wantTogether(t, open, a, a, true)
			wantTogether(t, open, a, last-a, a == last-a)
			wantTogether(t, open, a, (a+1)%len(names), false)
			wantTogether(t, ring, a, a, true)
			wantTogether(t, ring, a, last-a, true)
			wantTogether(t, ring, a, (a+1)%len(names), true)
		}
	}
}
