package tests

import (
	"slices"
	"strconv"
	"strings"
	"testing"

	"loop.example/g00531/impl"
)

// words are the names that stand in s with blanks between.
func words(s string) []string { return strings.Fields(s) }

func ruleOf(t *testing.T, s string) impl.Rule {
	t.Helper()
	return parsed(t, s).Rules[0]
}

func wantExpVars(t *testing.T, r impl.Rule, n int, want ...string) {
	t.Helper()
	if got := impl.ExpVars(r, n); !slices.Equal(got, want) {
		t.Errorf("ExpVars(%.400s, %d) = %q, want %q", impl.RuleText(r), n, got, want)
	}
}

func wantBound(t *testing.T, r impl.Rule, want ...string) {
	t.Helper()
	if got := impl.Bound(r); !slices.Equal(got, want) {
		t.Errorf("Bound(%.400s) = %q, want %q", impl.RuleText(r), got, want)
	}
}

// xAnd is a rule whose first exp is the name x in a literal of the body, with
// other exps, for which there is an Arg of the head each, and other literals. It
// has the form, if the others have.
func xAnd(exps []impl.Exp, args []int, body ...impl.Lit) impl.Rule {
	return rule(append([]impl.Exp{variable("x")}, exps...), atom("p", args...), append([]impl.Lit{atom("q", 0)}, body...)...)
}

// formless are rules that have not the form of chapter 4. Without a look at it
// the first exp would be the name x, and x would be bound, in all of them.
func formless() map[string]impl.Rule {
	one, x := term("1"), variable("x")
	noHead := func(kind int) impl.Rule {
		return impl.Rule{Exps: []impl.Exp{x}, Head: impl.Lit{Kind: kind, Name: "p"}, Body: []impl.Lit{atom("q", 0)}}
	}
	list := map[string]impl.Rule{
		"an exp that stands nowhere":          xAnd([]impl.Exp{one}, nil),
		"an exp that is an Arg twice":         xAnd(nil, []int{0}),
		"an Arg of two literals":              xAnd(nil, nil, atom("q", 0)),
		"an Arg and a Kid":                    xAnd([]impl.Exp{construct("S", 0)}, []int{1}),
		"a Kid twice":                         xAnd([]impl.Exp{one, reckon(impl.ExAdd, 1, 1)}, []int{2}),
		"a Kid behind its exp":                xAnd([]impl.Exp{construct("S", 2), one}, []int{1}),
		"its own Kid":                         xAnd([]impl.Exp{construct("S", 1)}, nil),
		"its own Kid, and an Arg":             xAnd([]impl.Exp{construct("S", 1)}, []int{1}),
		"a term with a Kid":                   xAnd([]impl.Exp{one, {Kind: impl.ExTerm, Text: "1", Kids: []int{1}}}, []int{2}),
		"a name with a Kid":                   xAnd([]impl.Exp{one, {Kind: impl.ExVar, Text: "y", Kids: []int{1}}}, []int{2}),
		"an any with a Kid":                   xAnd([]impl.Exp{one, {Kind: impl.ExAny, Kids: []int{1}}}, []int{2}),
		"a sum of nothing":                    xAnd([]impl.Exp{{Kind: impl.ExAdd}}, []int{1}),
		"a sum of one":                        xAnd([]impl.Exp{one, {Kind: impl.ExSub, Kids: []int{1}}}, []int{2}),
		"a product of three":                  xAnd([]impl.Exp{one, one, one, {Kind: impl.ExMul, Kids: []int{1, 2, 3}}}, []int{4}),
		"a comparison of nothing":             xAnd(nil, nil, impl.Lit{Kind: impl.LtCmp, Name: "="}),
		"a comparison of one":                 xAnd([]impl.Exp{one}, nil, impl.Lit{Kind: impl.LtCmp, Name: "=", Args: []int{1}}),
		"a comparison of three":               xAnd([]impl.Exp{one, one, one}, nil, impl.Lit{Kind: impl.LtCmp, Name: "=", Args: []int{1, 2, 3}}),
		"a head that is negated":              noHead(impl.LtNot),
		"a head that is a comparison":         noHead(impl.LtCmp),
		"a head of no kind":                   noHead(0),
		"an exp of no kind":                   xAnd([]impl.Exp{{}}, []int{1}),
		"an exp of a kind behind all":         xAnd([]impl.Exp{{Kind: impl.ExMul + 1}}, []int{1}),
		"a literal of no kind":                xAnd(nil, nil, impl.Lit{}),
		"a literal of a kind behind all":      xAnd(nil, nil, impl.Lit{Kind: impl.LtCmp + 1, Name: "q"}),
		"a literal of a kind below 0":         xAnd(nil, nil, impl.Lit{Kind: -1, Name: "q"}),
		"too many Exps":                       xAnd(times(impl.MaxExps, one), places(1, impl.MaxExps+1)),
		"a text that is too long by one byte": xAnd([]impl.Exp{variable(strings.Repeat("y", impl.MaxSource-len("p() :- q(x).")+1))}, []int{1}),
	}
	for _, bad := range noPlaces(2) {
		list["an Arg "+strconv.Itoa(bad)] = xAnd([]impl.Exp{one}, []int{1, bad})
		list["a Kid "+strconv.Itoa(bad)] = xAnd([]impl.Exp{one, construct("S", 1, bad)}, []int{2})
		list["a side "+strconv.Itoa(bad)] = xAnd([]impl.Exp{one}, nil, compare("=", 1, bad))
	}
	return list
}

// places are those from from on, ahead of to.
func places(from, to int) []int {
	var list []int
	for at := from; at < to; at++ {
		list = append(list, at)
	}
	return list
}

// TestRulesWithoutTheForm has nothing in any of its exps, whatever that is.
func TestRulesWithoutTheForm(t *testing.T) {
	for what, r := range formless() {
		if impl.RuleText(r) != "" {
			t.Errorf("%s: the rule has a text", what)
		}
		wantBound(t, r)
		for _, n := range append(places(0, len(r.Exps)), noPlaces(len(r.Exps))...) {
			wantExpVars(t, r, n)
			wantNoValue(t, r, n, "x y", []string{"1", "2"}, 1)
		}
	}
	wantBound(t, impl.Rule{})
	wantExpVars(t, impl.Rule{}, 0)
	wantNoValue(t, impl.Rule{}, 0, "", nil, 1)
}

// TestRulesAtTheLimitsOfTheForm are like those above, but just not too long.
func TestRulesAtTheLimitsOfTheForm(t *testing.T) {
	name := strings.Repeat("y", impl.MaxSource-len("p() :- q(x)."))
	long := xAnd([]impl.Exp{variable(name)}, []int{1})
	many := xAnd(times(impl.MaxExps-1, variable("z")), places(1, impl.MaxExps))
	for _, r := range []impl.Rule{xAnd(nil, nil), long, many} {
		wantBound(t, r, "x")
		wantExpVars(t, r, 0, "x")
		wantValue(t, r, 0, "x", []string{"7"}, "7")
	}
	wantExpVars(t, long, 1, name)
	wantExpVars(t, many, impl.MaxExps-1, "z")
	wantValue(t, long, 1, name, []string{"7"}, "7")
	wantValue(t, many, impl.MaxExps-1, "x z", []string{"7", "8"}, "8")
}

func TestExpVarsOfEachExp(t *testing.T) {
	for s, want := range map[string]string{
		"x": "x", "_": "", "1": "", "-1": "", `"x"`: "", "Nil": "",
		"S(x)": "x", "S(_)": "", "S(1)": "", `S("x")`: "", "S(S(S(x)))": "x", "P(x, y)": "x y", "P(y, x)": "y x", "P(x, x)": "x", "P(P(a, b), P(c, d))": "a b c d",
		"x + y": "x y", "y - x": "y x", "x * x": "x", "1 + 2": "", "_ + x": "x", "x - _": "x", "a + b * c": "a b c", "(a + b) * c": "a b c", "c * (b - a)": "c b a",
		"P(x + 1, _)": "x", "S(y) * S(x)": "y x", "P(a, Q(b, a, c), c, d + b)": "a b c d", "P(b, a, b, a)": "b a", "x + (y + (z + (y + x)))": "x y z",
	} {
		for _, r := range []impl.Rule{ruleOf(t, "p("+s+")."), ruleOf(t, "p(z, "+s+") :- r(y).")} {
			wantExpVars(t, r, r.Head.Args[len(r.Head.Args)-1], words(want)...)
		}
		for _, lit := range []string{"q(" + s + ")", "!q(" + s + ")", s + " = 1", s + " < x"} {
			r := ruleOf(t, "p(z, y, x) :- r(x), "+lit+".")
			wantExpVars(t, r, r.Body[1].Args[0], words(want)...)
		}
	}
}

func TestExpVarsOfEachPlace(t *testing.T) {
	r := ruleOf(t, "p(C(x, y + z)) :- q(D(z, x)), x = w, !r(_, 1).")
	for n, want := range []string{"x", "y", "z", "y z", "x y z", "z", "x", "z x", "x", "w", "", ""} {
		wantExpVars(t, r, n, words(want)...)
	}
	for _, n := range noPlaces(len(r.Exps)) {
		wantExpVars(t, r, n)
	}
	empty := ruleOf(t, "p() :- q().")
	for _, n := range noPlaces(0) {
		wantExpVars(t, empty, n)
	}
}

// TestExpVarsInTheOrderOfTheExps has exps whose texts have another order.
func TestExpVarsInTheOrderOfTheExps(t *testing.T) {
	a, b, c := variable("a"), variable("b"), variable("c")
	for _, kid := range []impl.Exp{construct("P", 1, 0), reckon(impl.ExAdd, 1, 0), reckon(impl.ExSub, 1, 0), reckon(impl.ExMul, 1, 0)} {
		wantExpVars(t, rule([]impl.Exp{a, b, kid}, atom("p", 2)), 2, "a", "b")
		wantExpVars(t, rule([]impl.Exp{b, a, kid}, atom("p", 2)), 2, "b", "a")
	}
	deep := rule([]impl.Exp{a, b, c, construct("P", 2, 0), construct("Q", 3, 1)}, atom("p", 4))
	wantRuleText(t, deep, "p(Q(P(c, a), b)).")
	wantExpVars(t, deep, 4, "a", "b", "c")
	wantExpVars(t, deep, 3, "a", "c")
	wantExpVars(t, rule([]impl.Exp{a, b, a, construct("P", 2, 1, 0)}, atom("p", 3)), 3, "a", "b")
	wantExpVars(t, rule([]impl.Exp{b, a, b, construct("P", 1, 2, 0)}, atom("p", 3)), 3, "b", "a")
	between := rule([]impl.Exp{c, a, c, b, construct("P", 3, 0)}, atom("p", 4), atom("q", 2, 1))
	wantExpVars(t, between, 4, "c", "b")
}

// TestNamesAreTakenAsTheyStand: an ExVar alone has a name, of any bytes.
func TestNamesAreTakenAsTheyStand(t *testing.T) {
	for _, name := range []string{"", " ", "_", "X", "1", `"x"`, "x + y", "\x00\xff", "p(x)"} {
		r := xAnd([]impl.Exp{variable(name), construct("S", 1)}, []int{2}, compare("=", 3, 4))
		r.Exps = append(r.Exps, variable(name), term("1"))
		wantExpVars(t, r, 2, name)
		wantBound(t, r, "x", name)
	}
	others := []impl.Exp{{Kind: impl.ExAny, Text: "a"}, {Kind: impl.ExTerm, Text: "b"}, construct("c"), construct("d", 1, 2, 3)}
	r := xAnd(others, []int{4})
	wantExpVars(t, r, 4)
	wantBound(t, r, "x")
	sum := xAnd([]impl.Exp{term("1"), term("2"), {Kind: impl.ExAdd, Text: "e", Kids: []int{1, 2}}}, nil, atom("q", 3))
	wantExpVars(t, sum, 3)
	wantBound(t, sum, "x")
}

func TestWhatAtomsBind(t *testing.T) {
	for s, want := range map[string]string{
		"p().": "", "p(x).": "", "p(1) :- q(), q(_), q(1).": "", "p(x) :- q(y).": "y", "p(x) :- p(x).": "x",
		"p(x) :- q(x).": "x", "p() :- q(x, y, x).": "x y", "p() :- q(x), q(y), q(x).": "x y", "p() :- q(1, x, _, y).": "x y",
		// The order is that of the rule, its head with it.
		"p(z, y, x) :- q(x, y, z).": "z y x", "p(y) :- q(z), q(x), q(y).": "y z x", "p(C(c, b + a)) :- q(a, d), q(b), q(c).": "c b a d", "p() :- !r(y), y < x, q(x, y).": "y x",
		// Within constructors.
		"p() :- q(S(x)).": "x", "p() :- q(P(x, Q(_, S(y), 1)), z).": "x y z", "p() :- q(S(S(S(S(x))))).": "x", "p() :- q(P(x, x)).": "x",
		// Within sums, and outside of them, too.
		"p() :- q(x + y).": "", "p() :- q(x - 1).": "", "p() :- q(1 * x).": "", "p() :- q(x + 1), q(1 - x), q(x * x).": "", "p() :- q((x + y) * (y - z)).": "",
		"p() :- q(S(x + 1)).": "", "p() :- q(P(x * 1, y)).": "y", "p() :- q(P(Q(x - 1, y), z + x)).": "y", "p() :- q(S(x) + 1).": "", "p() :- q(1 * S(P(x, y))).": "",
		"p() :- q(x + 1, x).": "x", "p() :- q(x, x + 1).": "x", "p() :- q(P(x + y, x)).": "x", "p() :- q(x + y), q(y).": "y", "p(x) :- q(y + x), q(S(x)), q(z - y).": "x",
		// Other literals, and the head.
		"p() :- !q(x).": "", "p() :- !q(x), !q(S(x), y).": "", "p() :- x < 1.": "", "p() :- 1 < x.": "", "p() :- x <= y.": "", "p() :- x != 1.": "", "p() :- 1 != x.": "",
		"p(x, S(y)) :- !q(z), z < y, x != y, q(1).": "", "p(x, y) :- !q(x), q(y), x <= y, z != y.": "y", "p(x) :- q(y), x != y.": "y", "p(x) :- q(y), x <= y, y <= x.": "y",
	} {
		wantBound(t, ruleOf(t, s), words(want)...)
	}
}

// TestWhatAnEquationBinds has an equation and the names that are bound by it, where
// b is bound. One that has no b in it binds the same where b is not bound.
func TestWhatAnEquationBinds(t *testing.T) {
	for s, want := range map[string]string{
		// A side without names.
		"x = 1": "x", `x = "y"`: "x", "x = Nil": "x", "x = P(1, Nil)": "x", "P(x, S(y)) = P(1, Nil)": "x y", "x = 1 + 2": "x", "P(x, y) = 2 * 3": "x y", "x = S(1 - 2)": "x", "1 = 2": "", "1 = 1 + 1": "",
		// A side whose names are bound.
		"x = b": "x", "x = b + 1": "x", "x = b * b - b": "x", "x = S(b)": "x", "x = P(b, 1 - b)": "x", "P(x, Q(y, z)) = b": "x y z", "P(x, b) = b": "x", "P(b, b) = P(x, y)": "x y", "P(b, 1) = P(b, x)": "x", "b = b": "",
		// A side of which but one name is bound, or none.
		"x = P(b, y)": "", "x = b + y": "", "P(b, x) = P(y, b)": "", "x = y": "", "x = x": "", "x = x + 1": "", "S(x) = x": "", "P(x, y) = P(y, x)": "", "P(x, 1) = P(1, y)": "", "P(x, b) = P(b, y)": "",
		// A sum at the other side.
		"b = x + 1": "", "b = x - b": "", "b = b * x": "", "b = P(x, y + 1)": "", "b = P(x + 1, y)": "", "b = P(x, 1 + 1)": "", "1 = P(x, y * 2)": "", "1 + 1 = x + 1": "", "1 = P(x, Q(y, 1 - 1))": "",
		// An ExAny, which may stand at the other side.
		"x = _": "", "x = S(_)": "", "x = P(b, _)": "", "x = b + _": "", "x = P(1, S(_))": "", "P(_, x) = b": "x", "P(_, x) = 1 + b": "x", "P(x, _, S(_)) = 1": "x",
		"S(_) = P(b, _)": "", "_ = b": "", "_ = 1": "", "_ = _": "", "P(x, _) = P(_, b)": "", "P(x, _) = P(_, 1)": "",
	} {
		left, right, _ := strings.Cut(s, " = ")
		for _, lit := range []string{s, right + " = " + left} {
			wantSameNames(t, ruleOf(t, "p() :- q(b), "+lit+"."), append(words(want), "b"))
			wantSameNames(t, ruleOf(t, "p() :- "+lit+", q(b)."), append(words(want), "b"))
			if !strings.Contains(s, "b") {
				wantSameNames(t, ruleOf(t, "p() :- "+lit+"."), words(want))
			}
		}
	}
}

// wantSameNames wants these names to be bound, in the order of the rule.
func wantSameNames(t *testing.T, r impl.Rule, names []string) {
	t.Helper()
	var want []string
	for _, e := range r.Exps {
		if e.Kind == impl.ExVar && slices.Contains(names, e.Text) && !slices.Contains(want, e.Text) {
			want = append(want, e.Text)
		}
	}
	wantBound(t, r, want...)
}

func TestEquationsThatWaitForOthers(t *testing.T) {
	for s, want := range map[string]string{
		"x = y, y = 1": "x y", "y = 1, x = y": "y x", "x = y, y = z, z = w, w = 1": "x y z w", "1 = w, w = z, z = y, y = x": "w z y x", "w = z, z = y, y = x, x = 1": "w z y x",
		"x = y, z = w, y = z, w = 1": "x y z w", "a = b + c, b = d * 2, c = e - 1, e = d, q(d)": "a b c d e", "x = P(y, z), P(y, 1) = P(w, v), w = 2, y = w": "y w v",
		"P(x, y) = z, z = S(w), S(w) = v, q(v)": "x y z w v", "x = y + z, y = 1": "y", "x = P(y, z), y = 1, z = x": "y", "x = y + z, y = z, z = 1": "x y z",
		// Rows that wait for themselves.
		"x = y, y = x": "", "x = y, y = z, z = x": "", "x = S(y), y = S(x)": "", "x = y + 1, y = x - 1": "", "x = y, y = x, x = _": "", "x = y, y = z, z != 1": "", "x = y, !q(y), y < 1": "",
		// One of the row cannot be bound by what is behind it.
		"x = y, y = z, z + 1 = w, w = 1": "w", "x = y, y = S(_), z = 1": "z", "x = y, z = y + 1, z = 1": "z", "x = y, P(y, w + 1) = z, z = w, w = 1": "w z", "x = y, P(_, y) = z, z = 1": "x y z",
	} {
		wantBound(t, ruleOf(t, "p() :- "+s+"."), words(want)...)
	}
	wantBound(t, ruleOf(t, "p(c, b, a) :- a = b, b = c, c = 1."), "c", "b", "a")
	wantBound(t, ruleOf(t, "p(x) :- !r(z), x = y, q(w), y = S(z), w = P(_, z)."), "x", "z", "y", "w")
}

// TestALongRowOfEquations has as many as there is room for, each of which waits
// for the next one, or for the one ahead.
func TestALongRowOfEquations(t *testing.T) {
	var up, down impl.Rule
	up.Head, down.Head = atom("p"), atom("p")
	var names []string
	for at := 0; at < impl.MaxExps; at += 2 {
		name, next := "v"+strconv.Itoa(at), variable("v"+strconv.Itoa(at+2))
		names = append(names, name)
		if at+2 == impl.MaxExps {
			next = term("1")
		}
		up.Exps = append(up.Exps, variable(name), next)
		down.Exps = append(down.Exps, next, variable(name))
		up.Body = append(up.Body, compare("=", at, at+1))
		down.Body = slices.Insert(down.Body, 0, compare("=", at, at+1))
	}
	wantBound(t, up, names...)
	wantSameNames(t, down, names)
	for at := range up.Body {
		r := up
		r.Body = slices.Clone(up.Body)
		r.Body[at].Name = "<="
		wantBound(t, r, names[at+1:]...)
	}
}

// TestSignsAndNamesOfLiterals: an equation is a LtCmp of the Name `=`, no other.
func TestSignsAndNamesOfLiterals(t *testing.T) {
	exps := []impl.Exp{variable("x"), term("1")}
	wantBound(t, rule(exps, atom("p"), compare("=", 0, 1)), "x")
	wantBound(t, rule(exps, atom("p"), compare("=", 1, 0)), "x")
	for _, sign := range []string{"", "==", " =", "= ", "!=", "<", "<=", "q"} {
		wantBound(t, rule(exps, atom("p"), compare(sign, 0, 1)))
	}
	wantBound(t, rule(exps, atom("p"), not("=", 0, 1)))
	wantBound(t, rule(exps, atom("=", 0, 1)))
	wantBound(t, rule([]impl.Exp{variable("x"), variable("y")}, atom("p"), atom("=", 1, 0)), "x", "y")
	wantBound(t, rule([]impl.Exp{variable("x"), variable("y")}, atom("p", 1), atom("", 0)), "x")
}
