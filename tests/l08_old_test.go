package tests

import (
	"math"
	"slices"
	"strconv"
	"strings"
	"testing"

	"loop.example/g00531/impl"
)

// wantOld wants just these names to be Old; what is Old is Bound.
func wantOld(t *testing.T, r impl.Rule, want ...string) {
	t.Helper()
	got, bound := impl.Old(r), impl.Bound(r)
	if !slices.Equal(got, want) {
		t.Errorf("Old(%.400s) = %q, want %q", impl.RuleText(r), got, want)
	}
	for _, name := range got {
		if !slices.Contains(bound, name) {
			t.Errorf("%q is Old and not Bound in %.400s", name, impl.RuleText(r))
		}
	}
}

// wantOldNames wants these names to be Old, in the order of the rule.
func wantOldNames(t *testing.T, r impl.Rule, names []string) {
	t.Helper()
	var want []string
	for _, name := range namesOf(r) {
		if slices.Contains(names, name) {
			want = append(want, name)
		}
	}
	wantOld(t, r, want...)
}

func wantGrows(t *testing.T, r impl.Rule, want bool) {
	t.Helper()
	if got := impl.Grows(r); got != want {
		t.Errorf("Grows(%.400s) = %v", impl.RuleText(r), got)
	}
}

func TestWhatAtomsMakeOld(t *testing.T) {
	for s, want := range map[string]string{
		"p().": "", "p(x).": "", "p(1) :- q(), q(_), q(1).": "", "p(x) :- q(y).": "y", "p(x) :- p(x).": "x",
		"p() :- q(x).": "x", "p() :- q(x, y, x).": "x y", "p() :- q(x), q(y), q(x).": "x y", "p() :- q(1, x, _, y).": "x y", "p() :- q(x), r(y), p(z).": "x y z",
		// The order is that of the rule, its head with it.
		"p(z, y, x) :- q(x, y, z).": "z y x", "p(y) :- q(z), q(x), q(y).": "y z x", "p(C(c, b + a)) :- q(a, d), q(b), q(c).": "c b a d", "p() :- !r(y), y < x, q(x, y).": "y x",
		// Within constructors.
		"p() :- q(S(x)).": "x", "p() :- q(P(x, Q(_, S(y), 1)), z).": "x y z", "p() :- q(S(S(S(S(x))))).": "x", "p() :- q(P(x, x)).": "x",
		// Within sums, and outside of them, too.
		"p() :- q(x + y).": "", "p() :- q(x - 1).": "", "p() :- q(1 * x).": "", "p() :- q(x + 1), q(1 - x), q(x * x).": "", "p() :- q((x + y) * (y - z)).": "",
		"p() :- q(S(x + 1)).": "", "p() :- q(P(x * 1, y)).": "y", "p() :- q(P(Q(x - 1, y), z + x)).": "y", "p() :- q(S(x) + 1).": "", "p() :- q(1 * S(P(x, y))).": "",
		"p() :- q(x + 1, x).": "x", "p() :- q(x, x + 1).": "x", "p() :- q(P(x + y, x)).": "x", "p() :- q(x + y), q(y).": "y", "p(x) :- q(y + x), q(S(x)), q(z - y).": "x",
		// Other literals, and the head.
		"p() :- !q(x).": "", "p() :- !q(x), !q(S(x), y).": "", "p() :- x < 1.": "", "p() :- 1 < x.": "", "p() :- x <= y.": "", "p() :- x != 1.": "", "p() :- 1 != x.": "",
		"p(x, S(y)) :- !q(z), z < y, x != y, q(1).": "", "p(x, y) :- !q(x), q(y), x <= y, z != y.": "y", "p(x) :- q(y), x != y.": "y", "p(x) :- q(y), x <= y, y <= x.": "y", "p() :- q(y), y < x, x < S(y), S(x) != y.": "y",
	} {
		wantOld(t, ruleOf(t, s), words(want)...)
	}
}

// TestWhatAnEquationMakesOld has an equation and the names that it makes Old, where
// o is, with its sides in both directions.
func TestWhatAnEquationMakesOld(t *testing.T) {
	for s, want := range map[string]string{
		// A side that is an ExVar that is Old.
		"o = x": "x", "o = o": "", "o = S(x)": "x", "o = P(x, y)": "x y", "o = P(y, x)": "y x", "o = P(x, Q(y, z), 1)": "x y z", "o = P(x, o)": "x", "o = P(x, x)": "x", "o = S(S(S(S(x))))": "x",
		"o = 1": "", `o = "a"`: "", "o = Nil": "", "o = P(1, Nil)": "", "o = _": "", "o = P(_, x)": "x", "o = P(x, Q(_, y, _))": "x y",
		// The other side has a sum, whatever stands beside it.
		"o = x + 1": "", "o = x - o": "", "o = o * x": "", "o = 1 + 2": "", "o = P(x, y + 1)": "", "o = P(y - 1, x)": "", "o = P(x, Q(y, 2 * 3))": "", "o = P(x, 1 + 1)": "", "o = S(S(x + y))": "",
		// A side that is none, though all its names are Old or it has none.
		"x = S(o)": "", "x = P(o, o)": "", "P(x, y) = S(o)": "", "S(x) = S(o)": "", "P(x, o) = P(o, y)": "", "x = o + 1": "", "x = 2 * o": "", "x = o - o": "", "S(x) = o + o": "", "P(x, y) = P(o, 1)": "",
		"x = 1": "", "x = -1": "", `x = "a"`: "", "x = Nil": "", "x = S(1)": "", "x = 1 + 2": "", "S(x) = 1": "", "P(x, y) = P(1, Nil)": "", "1 = 1": "", "1 = Nil": "", "x = _": "", "x = S(_)": "", "S(_) = P(x, o)": "",
		// An ExVar that is not.
		"x = y": "", "x = x": "", "x = S(x)": "", "x = S(y)": "", "x = P(o, y)": "", "x = P(o, x)": "", "x = y + o": "",
	} {
		left, right, _ := strings.Cut(s, " = ")
		for _, lit := range []string{s, right + " = " + left} {
			wantOldNames(t, ruleOf(t, "p() :- q(o), "+lit+"."), append(words(want), "o"))
			wantOldNames(t, ruleOf(t, "p() :- "+lit+", q(o)."), append(words(want), "o"))
			wantOldNames(t, ruleOf(t, "p(z, y, x, o) :- q(S(o)), "+lit+", !r(o, x, y, z)."), append(words(want), "o"))
			// Where nothing is, an equation makes nothing Old.
			wantOld(t, ruleOf(t, "p() :- "+lit+"."))
			wantOld(t, ruleOf(t, "p(o) :- "+lit+", q(o + 1), !q(o), o < 1."))
		}
	}
}

func TestEquationsThatWaitToMakeOld(t *testing.T) {
	for s, want := range map[string]string{
		// Each waits for the one behind it, and for the one ahead.
		"x = y, y = o": "x y o", "o = y, y = x": "o y x", "x = y, y = z, z = w, w = o": "x y z w o", "o = w, w = z, z = y, y = x": "o w z y x", "w = z, z = y, y = x, x = o": "w z y x o",
		"P(v, _) = x, S(x) = y, y = z, Q(z, w, 1) = o": "v x y z w o", "x = S(y), z = x, o = P(1, z)": "x y z o", "a = b, c = d, b = c, d = e, e = f, f = o": "a b c d e f o", "x = y, z = w, y = z, w = o": "x y z w o",
		// An ExVar may get to be Old by one equation and give by several.
		"x = S(y), x = S(z), x = w, o = x": "x y z w o", "P(x, y) = o, S(z) = x, S(w) = y": "x y o z w",
		// One of the row gives nothing.
		"x = y, y = S(o)": "o", "x = y, y = o + 1": "o", "x = y, y = 1": "o", "x = y, y = S(z), S(z) = o": "z o", "x = y, S(y) = z, z + 1 = w, w = o": "w o", "x = y, S(y) = S(z), z = o": "z o", "x = S(y), P(x, 1) = z, z = o": "x y z o", "x = y, y = z, z != o": "o", "x = y, !q(y), y < o": "o",
		// Rows that wait for themselves.
		"x = y, y = x": "o", "x = y, y = z, z = x": "o", "x = S(y), y = S(x)": "o", "x = x, y = S(x)": "o", "x = S(o), y = x, x = y": "o",
	} {
		for _, r := range []impl.Rule{ruleOf(t, "p() :- q(o), "+s+"."), ruleOf(t, "p() :- "+s+", q(P(_, o)).")} {
			wantOldNames(t, r, words(want))
		}
	}
	wantOld(t, ruleOf(t, "p(c, b, a) :- a = b, b = c, c = o, q(o)."), "c", "b", "a", "o")
	wantOld(t, ruleOf(t, "p(x) :- !r(z), x = y, q(w), z = S(y), w = P(_, z)."), "x", "z", "y", "w")
}

// TestALongRowOfEquationsThatMakeOld has as many as there is room for.
func TestALongRowOfEquationsThatMakeOld(t *testing.T) {
	var up, down impl.Rule
	up.Head, down.Head = atom("p"), atom("p")
	var names []string
	for at := 0; at+2 < impl.MaxExps; at += 2 {
		name, next := variable("v"+strconv.Itoa(at)), variable("v"+strconv.Itoa(at+2))
		names = append(names, name.Text)
		up.Exps, down.Exps = append(up.Exps, name, next), append(down.Exps, next, name)
		up.Body, down.Body = append(up.Body, compare("=", at, at+1)), slices.Insert(down.Body, 0, compare("=", at, at+1))
	}
	last := variable("v" + strconv.Itoa(len(up.Exps)))
	up.Body, down.Body = append(up.Body, atom("q", len(up.Exps))), append(down.Body, atom("q", len(up.Exps)))
	up.Exps, down.Exps = append(up.Exps, last), append(down.Exps, last)
	names = append(names, last.Text)
	wantOld(t, up, names...)
	wantOldNames(t, down, names)
	wantGrows(t, up, false)
	for at := range len(names) - 1 {
		r := up
		r.Body = slices.Clone(up.Body)
		r.Body[at].Name = "<="
		wantOld(t, r, names[at+1:]...)
	}
}

// TestSignsOfWhatMakesOld: an equation is a LtCmp of the Name `=`, no other, and a
// LtAtom may have any name.
func TestSignsOfWhatMakesOld(t *testing.T) {
	exps := []impl.Exp{variable("o"), variable("x"), variable("o")}
	wantOld(t, rule(exps, atom("p"), atom("q", 0), compare("=", 1, 2)), "o", "x")
	wantOld(t, rule(exps, atom("p"), atom("q", 0), compare("=", 2, 1)), "o", "x")
	for _, sign := range []string{"", "==", " =", "= ", "!=", "<", "<=", "q"} {
		wantOld(t, rule(exps, atom("p"), atom("q", 0), compare(sign, 1, 2)), "o")
	}
	wantOld(t, rule(exps, atom("p"), atom("q", 0), not("=", 1, 2)), "o")
	wantOld(t, rule(exps, atom("=", 1, 2), atom("q", 0)), "o")
	wantOld(t, rule(exps, atom("p"), atom("", 0), atom("=", 2, 1)), "o", "x")
	// Only an ExVar has a name.
	others := []impl.Exp{{Kind: impl.ExAny, Text: "a"}, {Kind: impl.ExTerm, Text: "b"}, construct("c"), construct("d", 0, 1, 2)}
	wantOld(t, rule(others, atom("p"), atom("q", 3)))
	sides := append(slices.Clone(exps), impl.Exp{Kind: impl.ExTerm, Text: "o"}, construct("o"), impl.Exp{Kind: impl.ExAny, Text: "o"})
	for _, side := range []int{3, 4, 5} {
		wantOld(t, rule(sides, atom("p", slices.DeleteFunc([]int{2, 3, 4, 5}, func(n int) bool { return n == side })...), atom("q", 0), compare("=", side, 1)), "o")
	}
}

func TestAnyBytesMayBeOld(t *testing.T) {
	for _, name := range []string{"", " ", "_", "X", "1", `"x"`, "x + y", "\x00\xff", "p(x)"} {
		r := xAnd([]impl.Exp{variable("x"), variable(name), construct("S", 2)}, nil, compare("=", 1, 3))
		wantOld(t, r, "x", name)
		wantGrows(t, r, false)
	}
}

// growing is a rule with a name besides that is Bound and not Old, so that it grows
// if it has the form; it has it if the rule has.
func growing(r impl.Rule) impl.Rule {
	n := len(r.Exps)
	r.Exps = append(slices.Clone(r.Exps), variable("z"), term("1"))
	r.Body = append(slices.Clone(r.Body), compare("=", n, n+1))
	return r
}

func TestRulesWithoutTheFormDoNotGrow(t *testing.T) {
	for what, r := range formless() {
		for _, r := range []impl.Rule{r, growing(r)} {
			if impl.RuleText(r) != "" {
				t.Errorf("%s: the rule has a text", what)
			}
			wantOld(t, r)
			wantGrows(t, r, false)
		}
	}
	wantOld(t, impl.Rule{})
	wantGrows(t, impl.Rule{}, false)
	for _, r := range []impl.Rule{{Exps: make([]impl.Exp, 1000000)}, {Head: atom("p"), Body: make([]impl.Lit, 1000000)}, rule(nil, atom("p", math.MaxInt), atom("q", math.MinInt))} {
		wantOld(t, r)
		wantGrows(t, r, false)
	}
	// Those at the limits of the form have what they are made for.
	room := impl.MaxSource - len("p() :- q(x), z = 1.")
	long := growing(xAnd([]impl.Exp{variable(strings.Repeat("y", room))}, []int{1}))
	many := growing(xAnd(times(impl.MaxExps-3, variable("z")), places(1, impl.MaxExps-2)))
	for _, r := range []impl.Rule{growing(xAnd(nil, nil)), long, many} {
		wantOld(t, r, "x")
		wantGrows(t, r, true)
	}
}

func TestGrowsByANameThatIsNotOld(t *testing.T) {
	for _, s := range []string{
		"p(x) :- x = 1.", "p() :- x = 1.", "p() :- 1 = x.", "p() :- x = Nil.", `p() :- x = "a".`, "p() :- S(x) = S(1).", "p() :- x = 1 + 2.", "p(y) :- q(y), x = 1.",
		"p(x) :- q(y), x = y + 1.", "p() :- q(y), y + 1 = x.", "p(x) :- q(y), x = S(y).", "p(x) :- x = S(y), q(y).", "p() :- q(y), S(x) = S(y).", "p() :- q(o), x = y, y = z, z = S(o).", "p() :- q(a, b, c), a = S(d), d = P(e, f), x = f * f.",
		"p() :- q(x + 1), x = 1.", "p() :- !q(x), x < 2, x = 1.",
	} {
		wantGrows(t, ruleOf(t, s), true)
	}
}

func TestGrowsByWhatIsInTheHead(t *testing.T) {
	for _, exp := range []string{
		// A constructor with an ExVar in it.
		"S(x)", "S(S(S(x)))", "P(1, x)", "P(x, 1)", "P(Nil, P(1, S(x)))", "P(_, x)", "S(y)",
		// A sum, with names and without, deep within it too.
		"x + 1", "x - 1", "x * 1", "1 + 2", "1 - 2", "1 * 2", "_ + _", "S(1 + 2)", "S(1 - 2)", "S(1 * 2)", "S(S(S(S(1 + 2))))", "P(1, P(Nil, P(2 * 3, 4)))", "S(_ - 1)", "y + y",
	} {
		for _, s := range []string{"p(" + exp + ")", "p(1, " + exp + ")", "p(" + exp + ", x, Nil)", "p(1, _, " + exp + ", \"a\")"} {
			wantGrows(t, ruleOf(t, s+"."), true)
			wantGrows(t, ruleOf(t, s+" :- q(x)."), true)
			wantGrows(t, ruleOf(t, s+" :- r(S(x)), !q(y)."), true)
		}
	}
}

func TestWhatDoesNotGrow(t *testing.T) {
	for _, s := range []string{
		"p().", "p() :- q().", "p(1).", "p(1, \"a\", _, Nil).", "p(x).", "p(x) :- q(x).", "p(x, y, x) :- q(y), q(x).", "p(x) :- q(S(x)).", "p(x) :- q(P(y, P(x, 1))).",
		// A constructor without an ExVar in it.
		"p(S(1)).", "p(S(Nil)).", "p(P(S(1), Nil)).", "p(S(_)).", "p(P(1, S(_))).", "p(S(1), x) :- q(x).", "p(x, P(1, Nil)) :- q(x).",
		// Constructors and sums elsewhere.
		"p(x) :- q(S(x), x + 1).", "p(x) :- q(x), q(x + 1), q(1 * 2).", "p(x) :- q(x), !q(S(x)), !q(x - 1).", "p(x) :- q(x), x + 1 < 2, S(x) != S(1), x <= 2 * 3.", "p(x) :- q(x), S(x) = S(x).", "p(x) :- q(x), x = x + 1.", "p(x) :- q(x), 1 + 2 = 3.",
		// Names that are Old by equations.
		"p(x) :- q(y), x = y.", "p(x) :- q(y), y = S(x).", "p(x) :- x = z, P(z, 1) = y, q(y).", "p(x) :- q(y), y = P(x, _).",
		// Names that are not Bound at all.
		"p(x) :- q(y).", "p() :- x = y.", "p(x) :- !q(x).", "p() :- q(x + 1).", "p() :- x < 1, 1 != x.", "p() :- q(y), y = x + 1.", "p() :- q(y), x = P(y, z).", "p() :- x = _.",
	} {
		wantGrows(t, ruleOf(t, s), false)
	}
}

// TestAHeadWhoseExpsStandElsewhere has exps that are not in the order of the text.
func TestAHeadWhoseExpsStandElsewhere(t *testing.T) {
	exps := []impl.Exp{variable("x"), construct("S", 0), variable("x"), construct("S", 2), term("1"), construct("S", 4)}
	wantGrows(t, rule(exps, atom("p", 1), atom("q", 3), atom("r", 5)), true)
	wantGrows(t, rule(exps, atom("p", 5), atom("q", 3), atom("r", 1)), false)
	wantGrows(t, rule(exps, atom("p", 5, 3), atom("q", 1)), true)
	wantGrows(t, rule(exps, atom("p"), atom("q", 3, 1, 5)), false)
	sums := []impl.Exp{term("1"), term("1"), reckon(impl.ExAdd, 0, 1), variable("x")}
	wantGrows(t, rule(sums, atom("p", 2), atom("q", 3)), true)
	wantGrows(t, rule(sums, atom("p", 3), atom("q", 2, 1)), false)
	wantGrows(t, rule(sums, atom("p", 3), atom("q", 2)), false)
}
