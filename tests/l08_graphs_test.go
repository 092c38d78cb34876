package tests

import (
	"fmt"
	"slices"
	"strings"
	"testing"

	"loop.example/g00531/impl"
)

// graph is one told by a word, `ab:00,12!`: from the place of the first letter, to
// that of the second one, with an arc from 0 to 0 and a Strict one from 1 to 2.
func graph(word string) impl.Graph {
	ends, arcs, _ := strings.Cut(word, ":")
	g := impl.Graph{From: int(ends[0] - 'a'), To: int(ends[1] - 'a')}
	for _, arc := range words(strings.ReplaceAll(arcs, ",", " ")) {
		g.Arcs = append(g.Arcs, impl.Arc{A: int(arc[0] - '0'), B: int(arc[1] - '0'), Strict: len(arc) == 3})
	}
	return g
}

func graphs(graphWords string) []impl.Graph {
	var list []impl.Graph
	for _, word := range words(graphWords) {
		list = append(list, graph(word))
	}
	return list
}

func sameGraph(a, b impl.Graph) bool {
	return a.From == b.From && a.To == b.To && slices.Equal(a.Arcs, b.Arcs)
}

func sameGraphs(a, b []impl.Graph) bool { return slices.EqualFunc(a, b, sameGraph) }

// told is what an error tells of graphs, and no more than the first of very many.
func told(list ...impl.Graph) string {
	for i, g := range list {
		if len(g.Arcs) > 50 {
			list = slices.Clone(list)
			list[i].Arcs = g.Arcs[:50]
		}
	}
	return fmt.Sprint(len(list), " graphs ", list[:min(len(list), 50)])
}

// relations have places in the order of the alphabet. No rule here has g or h in
// its head: they make names Old and have no graphs.
const relations = `type T = N | S(T) | P(T, T) | I(number, T) | M(symbol).
rel a(T, T). rel b(T, T). rel c(T). rel d(). rel e(number, T). rel f(T, T, T, number, symbol, T). rel g(T, T, T, T). rel h(number, number).
`

func wantGraphList(t *testing.T, p impl.Prog, want []impl.Graph) {
	t.Helper()
	if got := impl.GraphsOf(p); !sameGraphs(got, want) {
		t.Errorf("GraphsOf(%.3000s) = %s, want %s", impl.ProgText(p), told(got...), told(want...))
	}
}

func wantGraphs(t *testing.T, rules, graphWords string) {
	t.Helper()
	p := parsed(t, relations+rules)
	wantGround(t, p, -1, impl.GrOK)
	wantGraphList(t, p, graphs(graphWords))
}

func TestArcsByTheTextOfAnArg(t *testing.T) {
	for rules, want := range map[string]string{
		"a(x, y) :- a(x, y).": "aa:00,11", "a(y, x) :- a(x, y).": "aa:01,10", "a(x, x) :- a(x, y).": "aa:00,01", "a(x, x) :- a(y, x).": "aa:10,11", "a(x, y) :- a(x, z), g(y, _, _, _).": "aa:00",
		// A name that stands in two Args, and in two places of the head.
		"a(x, y) :- a(x, x), g(y, _, _, _).": "aa:00,10", "a(y, x) :- a(x, x), g(y, _, _, _).": "aa:01,11", "a(x, x) :- a(x, x).": "aa:00,01,10,11",
		"e(n, t) :- e(n, t).": "ee:00,11", "e(n, t) :- e(n, _), c(t).": "ee:00", "f(x, y, z, n, s, w) :- f(x, y, z, n, s, w).": "ff:00,11,22,33,44,55", "f(w, z, y, n, s, x) :- f(x, y, z, n, s, w).": "ff:05,12,21,33,44,50", "f(x, x, x, n, s, x) :- f(_, x, _, n, s, x).": "ff:10,11,12,15,33,44,50,51,52,55",
		// A constructor whose text is the Arg's, and one whose text is not.
		"c(S(x)) :- c(S(x)).": "cc:00", "a(S(x), P(x, y)) :- a(S(x), P(x, y)).": "aa:00,11", "a(P(x, y), S(x)) :- a(S(x), P(x, y)).": "aa:01,10", "c(I(1, x)) :- c(I(1, x)).": "cc:00", "c(I(n, S(P(x, N)))) :- c(I(n, S(P(x, N)))).": "cc:00",
		"c(S(x)) :- c(S(y)), g(x, _, _, _).": "cc:", "c(P(x, y)) :- c(P(y, x)).": "cc:", "c(P(x, N)) :- c(P(N, x)).": "cc:", "c(S(x)) :- c(P(x, x)).": "cc:", "c(I(1, x)) :- c(I(2, x)).": "cc:", "c(I(1, x)) :- c(I(-1, x)).": "cc:", "c(I(m, x)) :- c(I(n, x)), h(m, _).": "cc:",
		// It is greater than all of the literal.
		"c(S(x)) :- c(x).": "cc:", "c(P(x, y)) :- c(x), g(y, _, _, _).": "cc:", "a(S(x), y) :- a(x, y).": "aa:11", "a(S(y), S(x)) :- a(x, y).": "aa:", "c(S(S(x))) :- c(S(x)).": "cc:",
		// Names that begin alike.
		"a(x, x1) :- a(x1, x).": "aa:01,10", "a(xx, x) :- a(x, _), g(xx, _, _, _).": "aa:01",
		// No name is in the head's exp.
		"c(N) :- c(N).": "cc:", "a(N, S(N)) :- a(N, S(N)).": "aa:", "a(x, M(\"x\")) :- a(x, M(\"x\")).": "aa:00", "e(1, t) :- e(1, t).": "ee:11", "e(-1, S(N)) :- e(-1, S(N)), e(-1, P(S(N), N)).": "ee: ee:", "e(n, I(1, N)) :- e(n, I(1, N)).": "ee:00",
		// A sum in the head's exp, whose text is the Arg's.
		"e(n + 1, t) :- e(n + 1, t), h(n, _).": "ee:11", "e(n * m, t) :- e(n * m, t), h(n, m).": "ee:11", "e(n, I(n - 1, t)) :- e(n, I(n - 1, t)).": "ee:00", "c(I(1 + 2, x)) :- c(I(1 + 2, x)).": "cc:", "e(1 + 2, x) :- e(1 + 2, x).": "ee:11",
	} {
		wantGraphs(t, rules, want)
	}
}

func TestArcsByTheTextOfWhatIsWithinAnArg(t *testing.T) {
	for rules, want := range map[string]string{
		"c(x) :- c(S(x)).": "cc:00!", "c(x) :- c(S(S(S(x)))).": "cc:00!", "c(x) :- c(P(y, x)).": "cc:00!", "c(y) :- c(P(S(P(N, y)), x)).": "cc:00!", "a(x, y) :- a(S(y), S(x)).": "aa:01!,10!", "e(n, t) :- e(_, I(n, t)).": "ee:10!,11!", "c(S(x)) :- c(S(S(x))).": "cc:00!", "c(P(x, y)) :- c(I(1, P(x, y))).": "cc:00!", "f(x, y, z, n, s, w) :- f(P(x, y), z, M(s), n, _, S(w)).": "ff:00!,01!,12,24!,33,55!",
		"c(I(n, x)) :- c(P(N, I(n, x))).": "cc:00!", "c(I(n, x)) :- c(P(N, I(m, x))), h(n, _).": "cc:", "c(I(1, x)) :- c(S(I(2, x))).": "cc:",
		// Some plain, some Strict.
		"a(x, y) :- a(x, S(y)).": "aa:00,11!", "a(x, y) :- a(S(x), y).": "aa:00!,11", "a(y, y) :- a(S(x), y).": "aa:10,11", "a(x, S(x)) :- a(S(x), S(S(x))).": "aa:00!,01,10!,11!", "a(x, y) :- a(P(y, x), x).": "aa:00!,01!,10", "again(x) :- again(P(S(x), x)). rel again(T).": "ii:00!",
		// A text that stands in one Arg twice: one arc.
		"c(x) :- c(P(x, x)).": "cc:00!", "c(x) :- c(P(S(x), P(N, P(x, x)))).": "cc:00!", "c(S(x)) :- c(P(S(x), S(x))).": "cc:00!", "c(S(x)) :- c(S(P(S(x), P(x, S(x))))).": "cc:00!", "a(x, x) :- a(P(x, x), y).": "aa:00!,01!", "c(P(x, x)) :- c(P(P(x, x), P(x, x))).": "cc:00!", "c(I(n, x)) :- c(P(I(n, x), S(I(n, x)))).": "cc:00!",
		// In two Args, and in one of them as it is.
		"a(x, y) :- a(S(x), P(x, y)).": "aa:00!,10!,11!", "a(x, x) :- a(S(x), P(x, x)).": "aa:00!,01!,10!,11!", "a(x, y) :- a(x, P(x, y)).": "aa:00,10!,11!", "a(x, y) :- a(P(y, x), y).": "aa:00!,01!,11", "a(S(x), x) :- a(S(x), P(S(x), x)).": "aa:00,01!,10!,11!", "a(P(x, x), x) :- a(P(x, x), S(P(x, x))).": "aa:00,01!,10!,11!",
		// Beside an ExAny.
		"c(x) :- c(P(x, _)).": "cc:00!", "c(x) :- c(P(_, P(x, _))).": "cc:00!", "c(P(x, y)) :- c(P(x, _)), g(y, _, _, _).": "cc:", "a(x, S(y)) :- a(_, S(P(_, S(y)))), g(x, _, _, _).": "aa:11!",
	} {
		wantGraphs(t, rules, want)
	}
}

// TestNoArcsWithinASum has names that stand there alone, or elsewhere too.
func TestNoArcsWithinASum(t *testing.T) {
	for rules, want := range map[string]string{
		"e(n, t) :- e(n + 1, t), h(n, _).": "ee:11", "e(n, t) :- e(1 - n, t), h(n, _).": "ee:11", "e(n, t) :- e(n * n, t), h(n, _).": "ee:11", "e(n, t) :- e(1, I(n + 1, t)), h(n, _).": "ee:11!", "e(n, t) :- e(n - (2 * (n + m)), t), h(n, m).": "ee:11", "c(I(n, x)) :- c(I(n + 0, x)), h(n, _).": "cc:",
		"e(n, t) :- e(n, I(n + 1, t)).": "ee:00,11!", "e(n, t) :- e(k, I(n + 1, I(n, t))).": "ee:10!,11!", "e(n, t) :- e(n + 1, I(n, t)).": "ee:10!,11!", "e(n, t) :- e(_, I(n, I(n * 2, t))).": "ee:10!,11!", "e(n, t) :- e(n + 1, t), e(n, N).": "ee:11 ee:00",
	} {
		wantGraphs(t, rules, want)
	}
}

func TestNoArcsByEquations(t *testing.T) {
	for rules, want := range map[string]string{
		"a(x, y) :- a(z, y), z = x.": "aa:11", "a(x, y) :- a(z, y), z = S(x).": "aa:11", "a(x, y) :- a(z, y), x = z.": "aa:11", "c(x) :- c(S(y)), x = y.": "cc:", "c(x) :- x = N, c(S(_)).": "cc:", "c(S(x)) :- c(y), y = S(x).": "cc:", "c(y) :- c(y), y = S(x).": "cc:00",
	} {
		wantGraphs(t, rules, want)
	}
}

func TestWhichLiteralsHaveAGraph(t *testing.T) {
	for rules, want := range map[string]string{
		// None: no literal, none that is Together with the head.
		"": "", "a(N, N).": "", "a(x, x) :- x = N.": "", "a(x, y) :- b(x, y).": "", "a(x, y) :- b(x, y), c(x), d(), g(x, y, x, y).": "", "c(x) :- b(x, _). a(x, y) :- c(x), c(y). d() :- a(_, _).": "", "a(x, y) :- b(x, y). b(x, y) :- g(x, y, _, _).": "",
		// With itself, and each in a ring.
		"d() :- d().": "dd:", "c(x) :- c(x), b(x, _).": "cc:00", "a(x, y) :- b(x, y). b(x, y) :- a(x, y).": "ba:00,11 ab:00,11", "a(x, x) :- c(x). c(x) :- a(x, S(x)).": "ca:00,01 ac:00,10!", "d() :- c(_). c(N) :- d().": "cd: dc:", "a(x, y) :- b(y, x). b(x, x) :- c(S(x)). c(x) :- a(P(y, x), y).": "ba:01,10 cb:00!,01! ac:00!",
		"a(x, y) :- a(x, y), b(x, y). b(x, y) :- b(y, x).": "aa:00,11 bb:01,10", "a(x, y) :- b(x, y), c(x), d(). b(x, y) :- a(x, y), c(y). c(x) :- c(S(x)). d() :- d().": "ba:00,11 ab:00,11 cc:00! dd:",
		// A LtNot has none, though it may be what makes others go Together.
		"a(x, y) :- b(x, y), !a(y, x).": "", "a(x, y) :- b(x, y), !a(y, x), a(_, _).": "aa:", "a(x, y) :- b(x, y). b(x, y) :- g(x, y, _, _), !a(x, y).": "ba:00,11", "c(x) :- b(x, _), !d(). d() :- c(N).": "cd:", "a(x, y) :- !b(x, y), c(x), c(y). c(x) :- b(x, _), !a(x, x). b(x, x) :- a(x, x).": "ca:00 ca:01 bc:00 ab:00,01,10,11",
		// Two alike literals, two alike rules.
		"a(x, y) :- a(x, y), a(x, y).": "aa:00,11 aa:00,11", "c(x) :- c(S(x)), c(S(x)), c(S(x)).": "cc:00! cc:00! cc:00!", "c(x) :- c(x). c(x) :- c(x).": "cc:00 cc:00", "d() :- d(), d(). d() :- d().": "dd: dd: dd:",
		// The order of the rules, and of the literals.
		"c(x) :- c(x). c(x) :- c(S(x)).": "cc:00 cc:00!", "c(x) :- c(S(x)). c(x) :- c(x).": "cc:00! cc:00", "c(x) :- c(x), c(S(x)), c(_).": "cc:00 cc:00! cc:", "c(x) :- c(_), c(S(x)), c(x).": "cc: cc:00! cc:00", "b(x, y) :- a(x, y). a(x, y) :- b(y, x), a(x, y), b(x, y).": "ab:00,11 ba:01,10 aa:00,11 ba:00,11",
		"d() :- d(). a(x, y) :- a(x, y). c(x) :- c(x), g(x, x, x, x), c(N).": "dd: aa:00,11 cc:00 cc:",
	} {
		wantGraphs(t, rules, want)
	}
}

// TestGraphsAreToldByPlacesInRels has names whose order is not that of the places.
func TestGraphsAreToldByPlacesInRels(t *testing.T) {
	p := parsed(t, "q(x) :- z(x), q(x + 0). z(x) :- q(x), b(x). rel z(number) output. rel b(number) input. rel q(number) inline.")
	wantGraphList(t, p, graphs("ac:00 cc: ca:00"))
	for _, mode := range []string{"", " input", " output", " inline"} {
		wantGraphList(t, parsed(t, "rel p(number)"+mode+". p(x) :- p(x)."), graphs("aa:00"))
	}
	wantGraphList(t, impl.Prog{}, nil)
	wantGraphList(t, parsed(t, relations), nil)
}

// TestAsManyGraphsAsThereMayBe has more than MaxGraphs of them.
func TestAsManyGraphsAsThereMayBe(t *testing.T) {
	rule := "d() :- " + strings.Repeat("d(), ", impl.MaxBody-1) + "d()."
	p := parsed(t, "rel a(). rel b(). rel c(). rel d(). "+strings.Repeat(rule, impl.MaxRules))
	wantGround(t, p, -1, impl.GrOK)
	wantGraphList(t, p, times(impl.MaxRules*impl.MaxBody, graph("dd:")))
}

// ungrounded are rules that would have graphs, if they were grounded; but for one
// they do not grow.
func ungrounded() []string {
	return []string{
		// GrTypes.
		"c(x) :- c(x). c(1).", "c(x) :- c(x), other(x).", "c(x) :- c(x, x).", "c(x) :- c(x), e(x, N).", "rel c(T). c(x) :- c(x).", "type T = O. c(x) :- c(x).", "c(x) :- c(S(x, x)).",
		// GrAny.
		"a(x, _) :- a(x, _).", "a(_, x) :- a(_, x).", "c(P(_, x)) :- c(P(_, x)).", "e(n, t) :- e(n, t), h(_ + 1, n).", "c(x) :- c(x), _ = x.",
		// GrVar.
		"a(x, y) :- a(x, z).", "a(y, x) :- a(x, S(z)).", "e(n, t) :- e(n + 1, t).", "c(x) :- c(x), !c(y).", "a(x, y) :- a(x, x), y = z, z = y.", "c(x) :- c(x), h(n + 1, _).",
	}
}

func TestNothingOfRulesThatAreNotGrounded(t *testing.T) {
	for _, s := range ungrounded() {
		for _, more := range []string{"", "d() :- d(). ", "c(x) :- c(S(x)). "} {
			wantNothing(t, s, parsed(t, relations+more+s))
			wantNothing(t, s, parsed(t, relations+s+more))
		}
	}
}
