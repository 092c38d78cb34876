package tests

import (
	"fmt"
	"testing"

	"loop.example/g00531/impl"
)

// numbersTo are the rows of a relation of one number, from 0 on.
func numbersTo(n int) impl.Rel {
	r := impl.Rel{Arity: 1}
	for i := range n {
		r.Rows = append(r.Rows, row(impl.NumText(i)))
	}
	return r
}

// names are n rows of a number and "a".
func names(n int) impl.Rel {
	r := impl.Rel{Arity: 2}
	for i := range n {
		r.Rows = append(r.Rows, row(impl.NumText(i), `"a"`))
	}
	return r
}

// limited is a program of one rule with a Db in which num and edge have as many
// rows as are told: a row of edge is the i-th one by x * 20 + y.
func limited(t *testing.T, rule string, nums, edges int, facts string) (impl.Prog, impl.Db) {
	t.Helper()
	p := parsed(t, declarations+rule)
	d := dbOf(t, p, facts)
	d.Rels[placeOf(p, "num")], d.Rels[placeOf(p, "edge")] = numbersTo(nums), manyPairs(edges)
	wantDbOk(t, rule, p, d, true)
	return p, d
}

// wantCount wants as many matches, or FrMany where it is -1, and as many rows.
func wantCount(t *testing.T, p impl.Prog, d impl.Db, matches, rows int) {
	t.Helper()
	if matches < 0 {
		wantCode(t, p, 0, d, impl.FrMany)
		return
	}
	if list, code := impl.Matches(p, 0, d); len(list) != matches || code != impl.FrOK {
		t.Errorf("Matches of %s = %d matches, %d, want %d", impl.RuleText(p.Rules[0]), len(list), code, matches)
	}
	if r, code := impl.Fire(p, 0, d); len(r.Rows) != rows || code != impl.FrOK {
		t.Errorf("Fire of %s = %d rows, %d, want %d", impl.RuleText(p.Rules[0]), len(r.Rows), code, rows)
	}
}

// TestAsManyWaysAsMayBe has n and one more ways, of an edge and z.
func TestAsManyWaysAsMayBe(t *testing.T) {
	for edges, ways := range map[int]int{398: 399, 399: 400, 400: -1} {
		p, d := limited(t, "none() :- edge(x, y), num(z), z * (x * 20 + y) = 0.", 2, edges, "")
		wantCount(t, p, d, ways, 1)
		p, d = limited(t, "name(x * 20 + y + z * 1000, \"a\") :- num(z), edge(x, y), z * (x * 20 + y) = 0.", 2, edges, "")
		wantCount(t, p, d, ways, ways)
	}
	p, d := limited(t, "num(x) :- edge(x, _).", 0, 400, "")
	wantCount(t, p, d, 400, 20)
	p, d = limited(t, "sym(s) :- num(x), num(y), sym(s).", 20, 0, `sym("a")`)
	wantCount(t, p, d, 400, 1)
	p, d = limited(t, "sym(s) :- num(x), num(y), sym(s).", 21, 0, `sym("a")`)
	wantCount(t, p, d, -1, 0)
	// Ways that are none do not count.
	p, d = limited(t, "edge(x, y) :- num(x), num(y), x = y.", 100, 0, "")
	wantCount(t, p, d, 100, 100)
	p, d = limited(t, "sym(\"a\") :- num(x), num(y), !edge(x, y).", 20, 1, "")
	wantCount(t, p, d, 399, 1)
}

// TestAsManyTriesAsMayBe takes 50 rows, and for each of them 399: that is MaxTries.
func TestAsManyTriesAsMayBe(t *testing.T) {
	for _, rule := range []string{"none() :- num(n), edge(x, y), n < 0.", "none() :- num(n), edge(n, n), n < 0.", "none() :- num(n), edge(n, 30).", "none() :- num(n), !sym(\"a\"), edge(n, -1), 1 = 2."} {
		p, d := limited(t, rule, 50, 399, "none()")
		wantCount(t, p, d, 0, 0)
		p, d = limited(t, rule, 50, 400, "none()")
		wantCode(t, p, 0, d, impl.FrMany)
		p, d = limited(t, rule, 51, 399, "none()")
		wantCode(t, p, 0, d, impl.FrMany)
	}
	// For each of 20 that fit, the rows of a third literal are taken.
	for third, matches := range map[int]int{197: 0, 198: 0, 199: -1} {
		p, d := limited(t, "none() :- num(n), edge(n, n), name(_, \"b\").", 40, 400, "")
		d.Rels[placeOf(p, "name")] = names(third)
		wantCount(t, p, d, matches, 0)
	}
	p, d := limited(t, "none() :- num(49), num(n), edge(n, n), none().", 50, 399, "none()")
	wantCode(t, p, 0, d, impl.FrMany)
	// For a row that does not fit no others are taken.
	p, d = limited(t, "none() :- num(5), edge(_, _), num(7).", 50, 0, "")
	wantCount(t, p, d, 0, 0)
	p, d = limited(t, "sym(\"a\") :- num(5), edge(_, _).", 50, 400, "")
	wantCount(t, p, d, 400, 1)
	p, d = limited(t, "sym(\"a\") :- num(5), edge(0, 0), num(49), edge(1, _).", 50, 400, "")
	wantCount(t, p, d, 20, 1)
	// What is held against rows without taking them does not count.
	p, d = limited(t, "sym(\"a\") :- num(n), edge(3, _), !edge(-1, n), !edge(n, 20), !edge(n * 2, 20), n < 10.", 49, 400, "")
	wantCount(t, p, d, 200, 1)
}

// TestOverOrManyWays has 1000000 and more where the row of edge is one behind c,
// and two ways for each row: the one that is too much is that of row 200.
func TestOverOrManyWays(t *testing.T) {
	for c, code := range map[int]int{-1: impl.FrOver, 0: impl.FrOver, 150: impl.FrOver, 199: impl.FrOver, 200: impl.FrMany, 201: impl.FrMany, 350: impl.FrMany} {
		p, d := limited(t, fmt.Sprintf("none() :- edge(x, y), num(z), v = 1000000 - %d + (x * 20 + y).", c), 2, 400, "")
		wantCode(t, p, 0, d, code)
		p, d = limited(t, fmt.Sprintf("none() :- v = 1000000 - %d + (x * 20 + y), edge(x, y), num(z), !edge(v, z).", c), 2, 400, "")
		wantCode(t, p, 0, d, code)
	}
	// What comes of the heads comes behind all ways.
	p, d := limited(t, "num(1000000 + x) :- edge(x, y), num(z).", 2, 400, "")
	wantCode(t, p, 0, d, impl.FrMany)
}

// TestOverOrManyTries has just one way, by the number of which it is: of all that
// are taken, the way 19949 is that of the last row that may be taken.
func TestOverOrManyTries(t *testing.T) {
	for way, code := range map[int]int{0: impl.FrOver, 19948: impl.FrOver, 19949: impl.FrOver, 19950: impl.FrMany, 19999: impl.FrMany} {
		p, d := limited(t, fmt.Sprintf("none() :- num(n), edge(x, y), n * 400 + (x * 20 + y) = %d, 1000000 + (n + 1) < 0.", way), 50, 400, "")
		wantCode(t, p, 0, d, code)
	}
	p, d := limited(t, "none() :- num(n), edge(x, y), n = 1000000 + (y + 1).", 50, 400, "")
	wantCode(t, p, 0, d, impl.FrOver)
}
