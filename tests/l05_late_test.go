package tests

import (
	"testing"

	"loop.example/g00531/impl"
)

// TestTypesThatComeLate has names whose types are told by what stands behind them.
func TestTypesThatComeLate(t *testing.T) {
	n, s, l, tr := "number", "symbol", "List", "Tree"
	cases := []struct {
		rule string
		want []string
	}{
		// A literal that stands behind.
		{"none() :- x = y, num(x).", []string{"x", n, "y", n}},
		{"none() :- x = y, num(y).", []string{"x", n, "y", n}},
		{"none() :- x != y, !sym(x).", []string{"x", s, "y", s}},
		{"none() :- x = y, none(), none(), list(y).", []string{"x", l, "y", l}},
		{"none() :- x = y, x < 1.", []string{"x", n, "y", n}},
		{"none() :- x = y, 1 <= y.", []string{"x", n, "y", n}},
		{"none() :- x = _, sym(x).", []string{"x", s}},
		{"none() :- x = x, tree(x).", []string{"x", tr}},
		// An equation whose other side gets its type later.
		{"none() :- x = y, y = 1.", []string{"x", n, "y", n}},
		{"none() :- x = y, \"a\" = y.", []string{"x", s, "y", s}},
		{"none() :- x != y, Nil != y.", []string{"x", l, "y", l}},
		{"none() :- x = y, y = a + b.", []string{"x", n, "y", n, "a", n, "b", n}},
		{"none() :- y = z, x = z, z = Leaf.", []string{"y", tr, "z", tr, "x", tr}},
		// A row of several equations, from either end and from within.
		{"none() :- a = b, b = c, c = d, d = e, e = 1.", []string{"a", n, "b", n, "c", n, "d", n, "e", n}},
		{"none() :- d = e, c = d, b = c, a = b, \"s\" = a.", []string{"d", s, "e", s, "c", s, "b", s, "a", s}},
		{"none() :- a = b, c = d, e = f, b = c, d = e, list(d).", []string{"a", l, "b", l, "c", l, "d", l, "e", l, "f", l}},
		{"none() :- a = b, c = d, a = c, num(x), b = d, d = x.", []string{"a", n, "b", n, "c", n, "d", n, "x", n}},
		{"none() :- a = b, c = d, e = c, num(b), sym(e).", []string{"a", n, "b", n, "c", s, "d", s, "e", s}},
		{"none() :- a = b, b != a, a = a, tree(b).", []string{"a", tr, "b", tr}},
		// The head alone.
		{"num(x).", []string{"x", n}},
		{"name(x, y).", []string{"x", n, "y", s}},
		{"many(a, b, c, d, e, f).", []string{"a", n, "b", s, "c", l, "d", tr, "e", n, "f", s}},
		{"list(x) :- x = y.", []string{"x", l, "y", l}},
		{"list(x) :- z = y, y = x.", []string{"x", l, "z", l, "y", l}},
		{"tree(Node(x, y, _)) :- a = x, b = y.", []string{"x", tr, "y", s, "a", tr, "b", s}},
		// A constructor's place.
		{"none() :- x = Cons(a, b).", []string{"x", l, "a", n, "b", l}},
		{"none() :- Cons(a, b) = _.", []string{"a", n, "b", l}},
		{"none() :- x = y, _ = Node(_, x, _).", []string{"x", s, "y", s}},
		{"none() :- x = y, tree(Node(Of(Cons(_, x)), _, Leaf)).", []string{"x", l, "y", l}},
		{"none() :- Of(x) = Of(y).", []string{"x", l, "y", l}},
		{"none() :- z = y, x = z, !tree(Node(Of(y), _, _)).", []string{"z", l, "y", l, "x", l}},
		{"list(t) :- list(l), l = Cons(x, t), num(x).", []string{"t", l, "l", l, "x", n}},
		// What stands within a sum.
		{"none() :- x = y, _ = y + 1.", []string{"x", n, "y", n}},
		{"none() :- x = y, z = 1 - y.", []string{"x", n, "y", n, "z", n}},
		{"none() :- x = y, num(y * 2).", []string{"x", n, "y", n}},
		{"none() :- x = y, num(1 + (2 - 3 * y)).", []string{"x", n, "y", n}},
		{"list(Cons(x + y, _)) :- x = a, b = y.", []string{"x", n, "y", n, "a", n, "b", n}},
		{"none() :- x = y * y.", []string{"x", n, "y", n}},
		{"none() :- x + y = z, z = a.", []string{"x", n, "y", n, "z", n, "a", n}},
		{"none() :- x < y.", []string{"x", n, "y", n}},
		{"none() :- x <= y.", []string{"x", n, "y", n}},
	}
	for _, c := range cases {
		wantRuleVars(t, c.rule, c.want...)
	}
}

// TestTwoTypes has exps that must have, or have, two types.
func TestTwoTypes(t *testing.T) {
	for _, s := range []string{
		// An exp that has one type and must have another.
		"num(\"a\").", "sym(1).", "sym(-1).", "num(Nil).", "list(1).", "list(Leaf).", "tree(Nil).", "sym(1 + 1).", "list(1 * 2).", "edge(1, \"a\").", "name(\"a\", 1).",
		"none() :- num(\"a\").", "none() :- !num(\"a\").", "none() :- sym(1).", "none() :- !tree(Cons(1, Nil)).", "none() :- name(1, 1).",
		"many(1, \"a\", Nil, Leaf, 1, 1).", "many(1, \"a\", Leaf, Nil, 1, \"a\").",
		// Within constructors, and within sums.
		"list(Cons(\"a\", Nil)).", "list(Cons(1, 1)).", "list(Cons(Nil, Nil)).", "list(Cons(1, Cons(1, Leaf))).", "tree(Node(Leaf, 1, Leaf)).", "tree(Node(Of(Leaf), \"a\", Leaf)).",
		"tree(Of(Cons(\"a\" + 1, Nil))).", "num(\"a\" + 1).", "num(1 - \"a\").", "num(Nil * 2).", "num(1 * (2 - Leaf)).", "num(1 + (\"a\" + 1)).",
		// At both sides of a sign.
		"none() :- 1 = \"a\".", "none() :- \"a\" != 1.", "none() :- Nil = 1.", "none() :- \"a\" = Leaf.", "none() :- Nil = Leaf.", "none() :- Nil != Leaf.", "none() :- 1 + 1 = \"a\".", "none() :- Nil != 1 * 1.",
		"none() :- \"a\" < \"b\".", "none() :- 1 < \"b\".", "none() :- \"a\" < 1.", "none() :- Nil < 1.", "none() :- 1 <= Nil.", "none() :- \"a\" <= 1.", "none() :- \"a\" <= \"a\".",
		"none() :- Cons(1, Nil) = Cons(1, Leaf).", "none() :- _ = Cons(Nil, Nil).", "none() :- _ < \"a\".",
		// Names, in one literal.
		"name(x, x).", "none() :- name(x, x).", "none() :- !name(x, x).", "list(Cons(x, x)).", "tree(Node(x, x, _)).", "none() :- list(Cons(x, x)).",
		"none() :- x = Cons(x, _).", "none() :- x = Cons(_, Cons(x, _)).", "none() :- Of(x) = x.", "none() :- x = Node(_, x, _).",
		"none() :- many(x, _, _, _, _, x).", "none() :- many(x + 1, x, _, _, _, _).", "none() :- Cons(x, y) = Cons(y, x).", "none() :- Of(x) = Node(x, _, _).",
		// Names, in two literals.
		"num(x) :- sym(x).", "num(x) :- list(x).", "sym(x) :- !num(x).", "none() :- num(x), sym(x).", "none() :- sym(x), num(x).", "none() :- list(x), tree(x).",
		"none() :- num(x), none(), none(), !sym(x).", "none() :- num(x), x = \"a\".", "none() :- x = \"a\", num(x).", "none() :- sym(x), x < 1.", "none() :- 1 <= x, sym(x).",
		"none() :- list(x), 1 != x.", "none() :- sym(x), _ = x + 1.", "none() :- tree(Of(x)), tree(x).", "none() :- list(Cons(x, _)), tree(Node(_, x, _)).", "list(x + 1) :- num(x).", "list(x) :- tree(Node(x, _, _)).",
		// Over equations, whose types come from either side and late.
		"none() :- num(x), sym(y), x = y.", "none() :- x = y, num(x), sym(y).", "none() :- x != y, num(x), sym(y).", "num(x) :- x = y, sym(y).", "num(x) :- x = y, y = z, sym(z).",
		"none() :- x = 1, y = \"a\", x = y.", "none() :- a = b, b = c, c = d, num(a), sym(d).", "none() :- a = b, c = d, num(a), sym(d), b = c.", "none() :- a = b, c = b, 1 = a, Nil = c.",
		"none() :- x = y, x = Nil, y = Leaf.", "none() :- x = y, x = Cons(y, _).", "none() :- a = b, c = d, a < c, d != b, sym(d).", "none() :- x = y, name(x, y).", "none() :- _ = x, name(x, y), y = x.",
		// An exp of a fixed type between two names.
		"none() :- x = 1, sym(x).", "none() :- x = 1 + 1, list(x).", "none() :- Nil = x, y = x, tree(y).",
	} {
		wantRuleCode(t, s, impl.TyVar)
	}
}

// TestTwoTypesAheadOfNone: a rule has TyVar, where it has names without types,
// too, be they ahead or behind.
func TestTwoTypesAheadOfNone(t *testing.T) {
	for _, s := range []string{"none() :- a = b, num(x), sym(x).", "none() :- num(x), sym(x), a = b.", "num(x) :- a = _, x = \"a\".", "num(Nil) :- a != a."} {
		wantRuleCode(t, s, impl.TyVar)
	}
}

// TestEachAnyIsForItself: what is told of one `_` is not told of another.
func TestEachAnyIsForItself(t *testing.T) {
	for _, s := range []string{
		"name(_, _).", "none() :- name(_, _).", "none() :- num(_), sym(_), !list(_), tree(_).", "none() :- many(_, _, _, _, _, _).", "none() :- tree(Node(_, _, Of(Cons(_, _)))).",
		"none() :- _ = 1, _ = \"a\", _ != Nil, Leaf = _.", "none() :- _ < _, _ = \"a\".", "none() :- num(_ + _), sym(_).", "none() :- Cons(_, _) = _.",
	} {
		wantRuleVars(t, s)
	}
	wantRuleVars(t, "name(x, y) :- x = _, y = _.", "x", "number", "y", "symbol")
	wantRuleVars(t, "none() :- _ = x, _ = y, num(x), sym(y).", "x", "number", "y", "symbol")
}

// TestEachRuleIsForItself: a name may have one type in a rule and another one in
// the next.
func TestEachRuleIsForItself(t *testing.T) {
	p := parsed(t, declarations+"num(x) :- x = y. sym(x) :- x = y. list(y) :- x = y. none(). tree(x) :- tree(x), x = z.")
	wantTypes(t, p, -1, impl.TyOK)
	wantVars(t, p, 0, "x", "number", "y", "number")
	wantVars(t, p, 1, "x", "symbol", "y", "symbol")
	wantVars(t, p, 2, "y", "List", "x", "List")
	wantVars(t, p, 3)
	wantVars(t, p, 4, "x", "Tree", "z", "Tree")
	wantTypes(t, parsed(t, declarations+"num(x) :- num(x). none() :- x = y."), 1, impl.TyOpen)
}

func TestVarTypesOfPlacesThatAreNone(t *testing.T) {
	p := parsed(t, declarations+"num(x) :- edge(x, _). sym(y) :- name(_, y).")
	wantVars(t, p, 0, "x", "number")
	wantVars(t, p, 1, "y", "symbol")
	for _, n := range []int{-1, -2, 2, 3, 1000, -1 << 63, 1<<63 - 1} {
		wantVars(t, p, n)
		wantVars(t, parsed(t, declarations), n)
		wantVars(t, impl.Prog{}, n)
	}
	wantVars(t, impl.Prog{}, 0)
}

// TestVarTypesOfAProgramWithAFault is nothing, also of the rules that have none.
func TestVarTypesOfAProgramWithAFault(t *testing.T) {
	for code, list := range literalFaults() {
		for _, lit := range list {
			p := parsed(t, declarations+"num(x) :- edge(x, _). none() :- "+lit+". num(x) :- edge(x, _).")
			want := []string{"x", "number"}
			if code != impl.TyOK {
				want = nil
			}
			wantVars(t, p, 0, want...)
			wantVars(t, p, 1)
			wantVars(t, p, 2, want...)
		}
	}
	for _, s := range append(typeFaults(), relFaults()...) {
		wantVars(t, parsed(t, declarations+s+"num(x) :- edge(x, _)."), 0)
	}
}

// TestVarTypesInTheOrderOfTheExps: an exp stands behind its Kids, the head ahead
// of the body, and each name comes once.
func TestVarTypesInTheOrderOfTheExps(t *testing.T) {
	n, s, l, tr := "number", "symbol", "List", "Tree"
	wantRuleVars(t, "name(b, a) :- name(b, a), name(a1, b1), b1 = a.", "b", n, "a", s, "a1", n, "b1", s)
	wantRuleVars(t, "edge(z, y) :- edge(y, x), edge(x, z).", "z", n, "y", n, "x", n)
	wantRuleVars(t, "tree(Node(c, b, Of(Cons(d * e - d, a)))) :- tree(c), a = a2, f = b.", "c", tr, "b", s, "d", n, "e", n, "a", l, "a2", l, "f", s)
	wantRuleVars(t, "none() :- q < p, p < o + q, !sym(r), num(n), n != o.", "q", n, "p", n, "o", n, "r", s, "n", n)
	wantRuleVars(t, "num(number) :- name(number, symbol), list(type), rel = type.", "number", n, "symbol", s, "type", l, "rel", l)
	wantRuleVars(t, "num(n2345678901234567890) :- n2345678901234567891 = n2345678901234567890.", "n2345678901234567890", n, "n2345678901234567891", n)
}
