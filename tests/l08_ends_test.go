package tests

import (
	"strings"
	"testing"

	"loop.example/g00531/impl"
)

func wantEnds(t *testing.T, p impl.Prog, want bool) {
	t.Helper()
	wantGround(t, p, -1, impl.GrOK)
	if got := impl.Ends(p); got != want {
		t.Errorf("Ends(%.3000s) = %v", impl.ProgText(p), got)
	}
}

// wantEndsOf has the rules in the order that is given, and in the other one.
func wantEndsOf(t *testing.T, want bool, list ...string) {
	t.Helper()
	for _, s := range list {
		rules := strings.SplitAfter(s, ". ")
		turned := ""
		for _, r := range rules {
			turned = strings.TrimSuffix(r, " ") + " " + turned
		}
		wantEnds(t, parsed(t, relations+s), want)
		wantEnds(t, parsed(t, relations+turned), want)
	}
}

// allOrders puts the places of a relation in any order, and no rule of it grows:
// there are more graphs than MaxGraphs.
const allOrders = "o(b, c, d, e, f, a) :- o(a, b, c, d, e, f). o(b, a, c, d, e, f) :- o(a, b, c, d, e, f). rel o(T, T, T, T, T, T). "

func TestProgramsThatEndWithoutShrinking(t *testing.T) {
	wantEnds(t, impl.Prog{}, true)
	wantEnds(t, parsed(t, relations), true)
	wantEndsOf(t, true,
		// No rule grows.
		"a(N, S(N)).", "d() :- d().", "a(y, x) :- a(x, y).", "a(x, x) :- a(x, y). a(y, x) :- b(x, y). b(x, y) :- a(x, y).", "c(x) :- c(x), c(S(x)), x != N.", "e(1, t) :- e(n, t), e(n + 1, _).", "c(y) :- c(x), x = S(y).", allOrders,
		// A rule grows, and asks for nothing that is Together with its head.
		"c(S(N)).", "e(1 + 2, N).", "c(S(x)) :- a(x, _).", "e(n + 1, t) :- h(n, _), c(t).", "c(x) :- x = N.", "c(x) :- g(y, _, _, _), x = S(y).", "c(S(x)) :- a(x, y), b(y, x). a(x, S(y)) :- b(x, y). b(x, P(x, x)) :- g(x, _, _, _).", "c(S(x)) :- g(x, _, _, _). c(x) :- c(x). c(y) :- c(S(y)).", "c(S(x)) :- a(x, x). "+allOrders,
		// A LtNot alone is Together with it.
		"c(S(x)) :- a(x, _), !c(x).", "c(S(x)) :- a(x, _), !d(). d() :- c(_).", "e(n + 1, N) :- h(n, _), !e(n, N).")
}

func TestRulesThatShrink(t *testing.T) {
	wantEndsOf(t, true,
		"a(x, S(y)) :- a(S(x), y).", "a(t, I(n, y)) :- a(I(n, t), y).", "a(S(y), x) :- a(P(x, y), S(x)).", "c(x) :- c(S(x)), y = N.", "c(x) :- c(S(x)), h(n, _), m = n + 1, m < 3.", "e(n + 1, t) :- e(n, I(_, t)).", "a(S(y), x) :- a(y, S(x)).", "f(x, y, z, n + 1, s, w) :- f(x, y, z, n, s, S(w)).",
		// Two places shrink by turns; one of two shrinks each time.
		"e(n + 1, t) :- e(n, S(t)). e(n * 2, t) :- e(n, P(t, _)).", "a(x, P(y, y)) :- a(S(x), y). a(x, y) :- a(x, S(y)).", "a(P(N, y), x) :- a(y, S(S(x))). a(x, y) :- a(S(x), S(y)).",
		// A ring of two and of three, in which one rule shrinks.
		"a(x, S(y)) :- b(S(x), y). b(x, y) :- a(x, y).", "a(x, S(y)) :- b(x, y). b(x, y) :- a(S(x), y).", "b(S(y), x) :- a(x, S(y)). a(y, x) :- b(S(x), y).", "a(x, S(y)) :- b(x, y). b(x, y) :- c(P(x, y)). c(x) :- a(S(x), _).", "c(x) :- b(_, x). b(x, S(y)) :- a(S(P(x, S(y))), _). a(x, S(x)) :- c(x).",
		// Other rings need not shrink, when no rule grows in them.
		"a(x, S(y)) :- a(S(x), y). c(x) :- c(x).", "a(x, S(y)) :- a(S(x), y). b(y, x) :- b(x, y), a(x, y). d() :- d(), b(_, _).", "c(P(x, x)) :- a(x, x). a(y, x) :- a(x, y). b(x, S(y)) :- b(S(x), y).",
		// What is not in the ring may be greater.
		"a(x, S(y)) :- a(S(x), z), b(y, z). b(S(x), y) :- g(x, y, _, _).")
}

func TestRulesThatDoNotShrink(t *testing.T) {
	wantEndsOf(t, false,
		"c(S(x)) :- c(x).", "c(S(x)) :- c(S(x)), a(x, x).", "c(P(N, x)) :- c(S(x)).", "e(n + 1, t) :- e(n, t).", "e(n + 1, t) :- e(n, t), n < 5.", "e(n - 1, t) :- e(n, t), 0 < n.", "e(1 + 2, t) :- e(1, t).", "a(x, S(y)) :- a(x, y).", "a(S(x), y) :- a(y, x).", "c(x) :- c(y), x = S(y).", "c(x) :- c(S(y)), x = P(y, y).", "c(x) :- c(x), y = N.", "c(y) :- c(x), y = N.", "d() :- d(), x = N.", "d() :- d(), a(y, _), x = S(y).",
		// By turns one undoes what the other one does.
		"a(x, S(y)) :- a(S(x), y). a(S(x), y) :- a(x, S(y)).", "a(x, S(y)) :- a(S(x), y). a(S(y), x) :- a(S(x), y).", "b(S(y), x) :- a(x, y). a(y, x) :- b(S(x), y).", "c(P(x, y)) :- b(x, y). b(x, y) :- a(S(P(x, y)), _). a(x, x) :- c(x).", "a(x, S(y)) :- a(S(x), y). a(y, x) :- a(x, y).", "a(x, P(y, y)) :- a(S(x), y). a(S(x), y) :- a(x, S(y)).",
		// One rule of the ring shrinks, another one grows or stays.
		"a(x, S(y)) :- a(S(x), y). a(S(x), S(y)) :- a(x, y).", "a(x, S(y)) :- a(S(x), y). a(x, y) :- a(x, y).", "a(x, S(y)) :- a(S(x), y). a(N, N) :- a(_, _).", "c(S(x)) :- c(S(S(x))). c(x) :- c(x).", "c(x) :- c(S(x)), c(y), z = N.",
		// A ring of two in which none shrinks, or the other one grows.
		"c(S(x)) :- a(x, x). a(x, x) :- c(x).", "c(x) :- a(S(x), _). a(S(x), S(x)) :- c(x).", "c(S(x)) :- a(x, x), d(). d() :- c(_).", "a(x, S(y)) :- b(x, y). b(x, y) :- a(x, y).", "a(x, S(y)) :- b(S(x), y). b(x, y) :- a(x, y). b(S(x), y) :- b(x, y).", "d() :- c(_). c(S(x)) :- d(), g(x, _, _, _).",
		// Of two rings one does not.
		"a(x, S(y)) :- a(S(x), y). b(S(x), y) :- b(x, y).", "b(x, S(y)) :- b(S(x), y). a(S(x), y) :- a(x, y).", "c(S(x)) :- c(x), a(x, x). a(y, x) :- a(x, y).",
		// More graphs than MaxGraphs, wherever they are.
		"o(x, x, x, x, x, S(y)) :- o(S(x), S(x), S(x), S(x), S(x), S(y)). "+allOrders, "c(x) :- c(S(x)), y = N. "+allOrders, "a(x, S(y)) :- a(S(x), y). "+allOrders)
}

// TestALtNotInTheRingBesideAnAtom: the ring need not be one that has strata.
func TestALtNotInTheRingBesideAnAtom(t *testing.T) {
	wantEndsOf(t, false, "c(S(x)) :- c(x), !c(S(x)).", "c(S(x)) :- a(x, x). a(x, x) :- c(x), !c(S(x)).")
	wantEndsOf(t, true, "c(x) :- c(S(x)), !c(x), y = N.", "a(S(x), y) :- b(x, y). b(x, y) :- g(x, y, _, _), !c(x).",
		// No graph leads back, as a LtNot has none.
		"c(S(x)) :- a(x, _). a(x, y) :- g(x, y, _, _), !c(x).", "a(S(x), y) :- b(x, y). b(x, y) :- g(x, y, _, _), !a(x, y).")
}

// ringsOf are rules of relations without places, so many in a ring in turn. Each
// ring has a graph for each two of its relations.
func ringsOf(sizes ...int) (names, rules string) {
	for _, size := range sizes {
		ring := allLetters()[len(names) : len(names)+size]
		names += ring
		rules += rulesInRow(ring+ring[:1], "") + " "
	}
	return names, rules
}

func TestEndsWithJustMaxGraphs(t *testing.T) {
	for _, c := range []struct {
		sizes []int
		want  bool
	}{{[]int{10, 4, 1, 1}, true}, {[]int{10, 4, 1, 1, 1}, true}, {[]int{10, 4, 1, 1, 1, 1}, false}, {[]int{10}, true}, {[]int{11}, false}, {[]int{1, 1, 4, 10}, true}, {[]int{20}, false}} {
		names, rules := ringsOf(c.sizes...)
		p := lettered(t, names, rules)
		if got, ok := impl.Closed(impl.GraphsOf(p)); ok != (c.want || len(c.sizes) > 1) {
			t.Errorf("Closed of rings of %v: %d graphs, %v", c.sizes, len(got), ok)
		}
		// No rule grows.
		wantEnds(t, p, true)
		if len(names) == impl.MaxRels {
			continue
		}
		// A rule that shrinks has one graph more.
		more := parsed(t, impl.ProgText(p)+"rel z(number, T). type T = N | I(number, T). z(n + 1, t) :- z(n, I(_, t)).")
		wantEnds(t, more, c.want)
		wantEnds(t, parsed(t, strings.Replace(impl.ProgText(more), "z(n, I(_, t))", "z(n, t)", 1)), false)
		wantEnds(t, parsed(t, strings.Replace(impl.ProgText(more), "z(n, I(_, t))", "b(), I(n, t) = I(1, N)", 1)), true)
	}
}

func TestWhatIsNotGroundedDoesNotEnd(t *testing.T) {
	for _, s := range append(ungrounded(), "c(x).", "c(_).", "c(1).", "c().", "other().", "rel d().", "c(x) :- !d().", "c(x) :- c(S(y)).") {
		if impl.Ends(parsed(t, relations+s)) {
			t.Errorf("%s: it ends", s)
		}
	}
	for what, p := range unsoundProgs() {
		if impl.Ends(p) {
			t.Errorf("%s: it ends", what)
		}
	}
}
