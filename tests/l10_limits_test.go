package tests

import (
	"fmt"
	"testing"

	"loop.example/g00531/impl"
)

// counting gives the numbers from 0 to n, one in each Round.
func counting(n int) string {
	return fmt.Sprintf("num(0). num(x + 1) :- num(x), x < %d. ", n)
}

// wantCounted wants what comes of rules that give the numbers to n, and of others, by
// the number of rounds; more are facts that follow, too.
func wantCounted(t *testing.T, n int, rules, more string, rounds int) {
	t.Helper()
	p := parsed(t, declarations+counting(n)+rules)
	e := dbOf(t, p, more)
	e.Rels[placeOf(p, "num")] = numbersTo(n + 1)
	wantPerfectOf(t, p, impl.DbEmpty(p), e, rounds, impl.PfOK)
}

// TestAsManyRoundsAsMayBe: the numbers to n come in n + 1 Rounds, and one more finds
// nothing new.
func TestAsManyRoundsAsMayBe(t *testing.T) {
	wantCounted(t, 57, "", "", 59)
	wantCounted(t, 58, "", "", 60)
	wantPerfectCode(t, counting(59), "", 60, impl.PfRounds) // all rows are there, but no Round has found that
	wantPerfectCode(t, counting(60), "", 60, impl.PfRounds)
	wantPerfectCode(t, counting(999), "", 60, impl.PfRounds)
	// Another rule takes a Round more.
	wantCounted(t, 58, "sym(\"a\") :- num(57). list(Nil) :- num(3).", `sym("a") list(Nil)`, 60)
	wantCounted(t, 57, "sym(\"a\") :- num(57). list(Nil) :- num(3).", `sym("a") list(Nil)`, 60)
	wantPerfectCode(t, counting(58)+"sym(\"a\") :- num(58). list(Nil) :- num(3).", "", 60, impl.PfRounds)
}

// TestAsManyRoundsInALaterStratum: it takes two Rounds, one of which finds nothing.
func TestAsManyRoundsInALaterStratum(t *testing.T) {
	later := "sym(\"a\") :- !none(). "
	wantCounted(t, 55, later, `sym("a")`, 59)
	wantCounted(t, 56, later, `sym("a")`, 60)
	wantPerfectCode(t, counting(57)+later, "", 60, impl.PfRounds)
	wantPerfectCode(t, counting(58)+later, "", 60, impl.PfRounds) // just between the two
	wantPerfectCode(t, counting(59)+later, "", 60, impl.PfRounds)
	// One Round in which nothing is found is enough.
	nothing := "sym(\"a\") :- none(), !none(). "
	wantCounted(t, 57, nothing, "", 60)
	wantPerfectCode(t, counting(58)+nothing, "", 60, impl.PfRounds)
	// The numbers come in the later stratum, behind one with one Round.
	growing := "num(0) :- !none(). num(x + 1) :- num(x), x < %d."
	for n, code := range map[int]int{56: impl.PfOK, 57: impl.PfOK, 58: impl.PfRounds, 59: impl.PfRounds} {
		rules := fmt.Sprintf(growing, n)
		if code == impl.PfRounds {
			wantPerfectCode(t, rules, "", 60, code)
			continue
		}
		p := parsed(t, declarations+rules)
		e := dbOf(t, p, "")
		e.Rels[placeOf(p, "num")] = numbersTo(n + 1)
		wantPerfectOf(t, p, dbOf(t, p, ""), e, n+3, code)
	}
	// Three strata.
	third := later + "list(Nil) :- !sym(\"b\"). "
	wantCounted(t, 54, third, `sym("a") list(Nil)`, 60)
	wantPerfectCode(t, counting(55)+third, "", 60, impl.PfRounds)
	wantPerfectCode(t, counting(56)+third, "", 60, impl.PfRounds)
	wantPerfectCode(t, counting(57)+third, "", 60, impl.PfRounds)
}

// TestACodeInTheLastRound: the Round that is over is made if it is the last that may
// be, and not behind that.
func TestACodeInTheLastRound(t *testing.T) {
	for n, code := range map[int]int{57: impl.PfOver, 58: impl.PfOver, 59: impl.PfRounds, 60: impl.PfRounds} {
		// num(n) is there ahead of the Round n + 2.
		wantPerfectCode(t, counting(70)+fmt.Sprintf("none() :- num(%d), 1000000 + 1 < 0.", n), "", min(n+2, 60), code)
		wantPerfectCode(t, counting(70)+fmt.Sprintf("none() :- num(x), x + (1000000 - %d + 1) < 0.", n), "", min(n+2, 60), code)
	}
	// The Round n + 3 is the first one of the later stratum.
	for n, code := range map[int]int{56: impl.PfOver, 57: impl.PfOver, 58: impl.PfRounds, 59: impl.PfRounds} {
		wantPerfectCode(t, counting(n)+"sym(\"a\") :- num(x), x + 1000000 < 0, !none().", "", min(n+3, 60), code)
	}
}

// manyNames are n facts of name with "a".
func manyNames(n int) string {
	s := ""
	for i := range n {
		s += fmt.Sprintf(" name(%d,\"a\")", i)
	}
	return s
}

// wantManyFrom wants PfMany as soon as num(n) is there, and that the rules with
// fewer numbers come to an end. Of what was there ahead of a Round few rows are new.
func wantManyFrom(t *testing.T, n int, rules string, others impl.Db) {
	t.Helper()
	for _, order := range []string{"%[1]s%[2]s", "%[2]s%[1]s"} {
		for upTo, code := range map[int]int{n - 1: impl.PfOK, n: impl.PfMany, n + 1: impl.PfMany, n + 100: impl.PfMany} {
			p := parsed(t, declarations+fmt.Sprintf(order, counting(upTo), rules))
			e, rounds, got := impl.Perfect(p, others)
			if got != code || code == impl.PfMany && (rounds != n+2 || len(e.Rels) > 0) {
				t.Errorf("Perfect of %s has %d rounds and the code %d, want %d", rulesText(p), rounds, got, code)
			}
			if code == impl.PfOK && (len(e.Rels) == 0 || len(e.Rels[placeOf(p, "num")].Rows) != upTo+1 || !impl.Holds(p, e)) {
				t.Errorf("Perfect of %s is %.300s", rulesText(p), factWords(p, e))
			}
		}
	}
}

// others has as many names and edges as told, and no numbers.
func others(t *testing.T, names, edges int) impl.Db {
	t.Helper()
	p := parsed(t, declarations)
	d := dbOf(t, p, manyNames(names))
	d.Rels[placeOf(p, "edge")] = manyPairs(edges)
	wantDbOk(t, "names and edges", p, d, true)
	return d
}

// TestManyWaysOfAllRounds: each number has 20 ways, or 40 with two rules.
func TestManyWaysOfAllRounds(t *testing.T) {
	wantManyFrom(t, 20, "sym(s) :- num(_), name(_, s).", others(t, 20, 0))
	wantManyFrom(t, 20, "sym(s) :- name(_, s), num(_).", others(t, 20, 0))
	wantManyFrom(t, 20, "none() :- num(_). sym(s) :- name(_, s), num(_).", others(t, 20, 0))
	wantManyFrom(t, 10, "sym(s) :- name(_, s), num(_).", others(t, 40, 0))
	wantManyFrom(t, 20, "none() :- num(_), num(_).", others(t, 0, 0)) // 21 times 21
	wantManyFrom(t, 1, "sym(s) :- name(_, s), num(_).", others(t, 400, 0))
	// Two rules have their ways each for itself.
	wantManyFrom(t, 20, "sym(s) :- name(_, s), num(_). sym(s) :- num(_), name(_, s).", others(t, 20, 0))
	// Ways that are none do not count.
	wantManyFrom(t, 20, "sym(s) :- name(x, s), num(_), x < 20.", others(t, 200, 0))
}

// TestOneWayTooManyOfAllRounds: num(0) has 399 ways, and num(1) those of the names
// that are less than c.
func TestOneWayTooManyOfAllRounds(t *testing.T) {
	for c, code := range map[int]int{0: impl.PfOK, 1: impl.PfOK, 2: impl.PfMany, 3: impl.PfMany} {
		for _, body := range []string{"num(z), name(x, s)", "name(x, s), num(z)"} {
			p := parsed(t, declarations+fmt.Sprintf("num(1) :- num(0). sym(s) :- %s, z * (x - %d) <= 0 - z.", body, c))
			d := dbOf(t, p, "num(0)"+manyNames(399))
			if code != impl.PfOK {
				wantPerfectOf(t, p, d, impl.Db{}, 2, code)
				continue
			}
			wantPerfectOf(t, p, d, dbOf(t, p, "num(0) num(1) sym(\"a\")"+manyNames(399)), 2, code)
		}
	}
}

// TestWaysOfARuleThatRested: there is a Round in which no row that a rule asks for is
// new; its older ways count in a later one all the same.
func TestWaysOfARuleThatRested(t *testing.T) {
	for names, code := range map[int]int{200: impl.PfOK, 201: impl.PfMany} {
		for _, body := range []string{"tree(_), name(_, s)", "name(_, s), tree(_)"} {
			p := parsed(t, declarations+counting(5)+"tree(Of(Nil)) :- num(4). sym(s) :- "+body+".")
			d := dbOf(t, p, "tree(Leaf)"+manyNames(names))
			if code != impl.PfOK {
				wantPerfectOf(t, p, d, impl.Db{}, 7, code)
				continue
			}
			e := dbOf(t, p, "tree(Leaf) tree(Of(Nil)) sym(\"a\")"+manyNames(names))
			e.Rels[placeOf(p, "num")] = numbersTo(6)
			wantPerfectOf(t, p, d, e, 7, code)
		}
	}
}

// TestManyTriesOfAllRounds: of the rows that are taken few are new.
func TestManyTriesOfAllRounds(t *testing.T) {
	wantManyFrom(t, 50, "none() :- num(_), edge(_, -1).", others(t, 0, 399)) // 50 * 400 is MaxTries
	wantManyFrom(t, 49, "none() :- num(_), edge(_, -1).", others(t, 0, 400))
	wantManyFrom(t, 50, "sym(\"a\") :- num(n), edge(n, -1).", others(t, 0, 399))
	wantManyFrom(t, 50, "none() :- num(_), edge(_, _), 1 = 2.", others(t, 0, 399))
	wantManyFrom(t, 49, "none() :- edge(_, _), num(-1).", others(t, 0, 399)) // 399 * (1 + 49) is less than that
	wantManyFrom(t, 50, "none() :- num(_), edge(_, -1). sym(\"a\") :- edge(_, -1), num(_).", others(t, 0, 399))
}

// TestManyRowsOfAllRounds: each number has 40 rows, by 20 ways of each of two rules.
func TestManyRowsOfAllRounds(t *testing.T) {
	wantManyFrom(t, 10, "edge(x, y) :- num(x), name(y, _). edge(x, y + 100) :- num(x), name(y, _).", others(t, 20, 0))
	wantManyFrom(t, 9, "edge(x, y) :- num(x), name(y, _). edge(x, y + 100) :- num(x), name(y, _). edge(-1, 0).", others(t, 20, 0))
	wantManyFrom(t, 10, "edge(x, y) :- num(x), name(y, _). edge(x, y + 100) :- num(x), name(y, _). edge(3, 3). edge(4, 101) :- num(4).", others(t, 20, 0))
	// Rows of two relations do not count together.
	wantManyFrom(t, 10, "edge(x, y) :- num(x), name(y, _). edge(x, y + 100) :- num(x), name(y, _). many(x, s, Nil, Leaf, y, s) :- num(x), name(y, s), x < 19.", others(t, 20, 0))
}

func TestManyInTheFirstRoundAndInALaterStratum(t *testing.T) {
	names := manyNames(21)
	ways := "sym(s) :- name(_, s), name(_, s)"
	wantPerfectCode(t, ways+".", names, 1, impl.PfMany)
	wantPerfectCode(t, counting(9)+ways+".", names, 1, impl.PfMany)
	wantPerfectCode(t, counting(9)+ways+", !none().", names, 12, impl.PfMany)
	wantPerfectCode(t, ways+", !none().", names, 2, impl.PfMany)
	// More than MaxRows ways in a later Round of a later stratum, as num(20) is there.
	wantPerfectCode(t, "num(0) :- !none(). num(x + 1) :- num(x), x < 20. sym(s) :- name(_, s), num(_).", manyNames(20), 23, impl.PfMany)
	wantPerfectCode(t, "num(0) :- !none(). num(x + 1) :- num(x), x < 30. sym(s) :- name(_, s), num(_), !list(Nil).", manyNames(20), 23, impl.PfMany)
	wantPerfectCode(t, "num(0) :- !none(). num(x + 1) :- num(x), x < 30. sym(s) :- name(_, s), num(_), !num(-1).", manyNames(20), 34, impl.PfMany)
	wantPerfectCode(t, counting(20)+"sym(s) :- name(x, s), num(_), !edge(x, _).", manyNames(21)+" edge(0,1)", 23, impl.PfMany)
	// More than MaxRows rows.
	many := "edge(x, y) :- num(x), name(y, _). edge(x, y + 100) :- num(x), name(y, _)"
	wantPerfectCode(t, counting(10)+many+".", manyNames(20), 12, impl.PfMany)
	wantPerfectCode(t, counting(10)+many+", !none().", manyNames(20), 13, impl.PfMany)
	for n, rows := range map[int]int{9: 400, 8: 360} {
		p := parsed(t, declarations+counting(n)+many+", !none().")
		e, rounds, code := impl.Perfect(p, others(t, 20, 0))
		if code != impl.PfOK || rounds != n+4 || len(e.Rels[placeOf(p, "edge")].Rows) != rows {
			t.Errorf("of %d numbers %d rounds and the code %d come", n, rounds, code)
		}
	}
}

// TestOverOrManyWaysOfAllRounds: of each edge there are two ways, that with num(1) is
// new in the second Round and over for the rows behind c. The way that is one too
// much may be an old one or a new one.
func TestOverOrManyWaysOfAllRounds(t *testing.T) {
	look := func(c, code int, body string) {
		t.Helper()
		rule := fmt.Sprintf("none() :- %s, v = 1000000 + z * (x * 20 + y - %d).", body, c)
		for _, order := range []string{"num(1) :- num(0). " + rule, rule + "num(1) :- num(0). "} {
			p := parsed(t, declarations+order)
			d := dbOf(t, p, "num(0)")
			d.Rels[placeOf(p, "edge")] = manyPairs(400)
			wantPerfectOf(t, p, d, impl.Db{}, 2, code)
		}
	}
	for c, code := range map[int]int{-1: impl.PfOver, 0: impl.PfOver, 197: impl.PfOver, 198: impl.PfOver, 199: impl.PfMany, 200: impl.PfMany, 399: impl.PfMany} {
		look(c, code, "edge(x, y), num(z)")
	}
	// All old ones come first.
	for c, code := range map[int]int{-1: impl.PfOver, 0: impl.PfMany, 1: impl.PfMany, 399: impl.PfMany} {
		look(c, code, "num(z), edge(x, y)")
	}
	// What comes of the heads comes behind all ways.
	p := parsed(t, declarations+"num(1) :- num(0). name(1000000 + z, \"a\") :- num(z), edge(_, _).")
	d := dbOf(t, p, "num(0)")
	for edges, code := range map[int]int{1: impl.PfOver, 200: impl.PfOver, 201: impl.PfMany, 400: impl.PfMany} {
		d.Rels[placeOf(p, "edge")] = manyPairs(edges)
		wantPerfectOf(t, p, d, impl.Db{}, 2, code)
	}
}

// TestOverOrManyTriesOfAllRounds has one way, which is over: with 400 edges for each
// number the way 19949 is that of the last row that may be taken.
func TestOverOrManyTriesOfAllRounds(t *testing.T) {
	for way, code := range map[int]int{19599: impl.PfOver, 19600: impl.PfOver, 19949: impl.PfOver, 19950: impl.PfMany, 19999: impl.PfMany, 30000: impl.PfMany} {
		p := parsed(t, declarations+counting(70)+fmt.Sprintf("none() :- num(n), edge(x, y), n * 400 + (x * 20 + y) = %d, 1000000 + (n + 1) < 0.", way))
		wantPerfectOf(t, p, others(t, 0, 400), impl.Db{}, min(way/400, 49)+2, code)
	}
}
