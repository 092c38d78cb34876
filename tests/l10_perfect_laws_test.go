package tests

import (
	"math/rand/v2"
	"reflect"
	"slices"
	"strings"
	"testing"

	"loop.example/g00531/impl"
)

// wantedRound has the rows of each rule of a stratum, as the second reckoning of
// chapter 9 gives them.
func wantedRound(p impl.Prog, d impl.Db, s int) (impl.Db, int) {
	strata := wantedStrata(wantedDeps(p), leads(wantedDeps(p), len(p.Rels)))
	e := impl.Db{Rels: slices.Clone(d.Rels)}
	isTooMany := false
	for n, r := range p.Rules {
		at := placeOf(p, r.Head.Name)
		if strata[at] != s {
			continue
		}
		rows, code := wantedFired(p, n, d, nil).rows()
		if code != impl.FrOK {
			return impl.Db{}, map[int]int{impl.FrOver: impl.PfOver, impl.FrMany: impl.PfMany}[code]
		}
		joined, ok := impl.RelJoin(e.Rels[at], rows)
		if isTooMany = isTooMany || !ok; ok {
			e.Rels[at] = joined
		}
	}
	if isTooMany {
		return impl.Db{}, impl.PfMany
	}
	return e, impl.PfOK
}

// wantedPerfect makes one Round after the other over all rows.
func wantedPerfect(p impl.Prog, d impl.Db) (impl.Db, int, int) {
	rounds := 0
	for s := range strataCount(p) {
		for isNew := true; isNew; {
			if rounds == impl.MaxRounds {
				return impl.Db{}, rounds, impl.PfRounds
			}
			e, code := impl.Round(p, d, s)
			rounds++
			if code != impl.PfOK {
				return impl.Db{}, rounds, code
			}
			isNew = !sameDb(d, e)
			d = e
		}
	}
	return d, rounds, impl.PfOK
}

func wantedHolds(p impl.Prog, d impl.Db) bool {
	for n, r := range p.Rules {
		rows, code := wantedFired(p, n, d, nil).rows()
		if code != impl.FrOK || len(impl.RelLess(rows, d.Rels[placeOf(p, r.Head.Name)]).Rows) > 0 {
			return false
		}
	}
	return true
}

// climbWriter makes programs of a few rules up, whose heads are of relations that
// others ask for.
type climbWriter struct{ *fireWriter }

func (w *climbWriter) head() string {
	switch w.IntN(9) {
	case 0, 1:
		return "a(" + w.number(1) + ", " + w.number(0) + ")"
	case 2, 3:
		return "b(" + w.number(1) + ")"
	case 4:
		return "c(" + w.list(1) + ")"
	case 5:
		return "d(" + w.list(0) + ", " + w.number(1) + ")"
	case 6:
		return "s(" + w.symbol() + ", " + w.number(0) + ")"
	case 7:
		return "o()"
	}
	return pick(w.writer, "out("+w.number(0)+", "+w.list(1)+")", "both("+w.list(0)+", "+w.symbol()+")")
}

// ring is a rule that gives rows Round by Round, if there is one to begin with.
func (w *climbWriter) ring() string {
	return pick(w.writer,
		"b(x + 1) :- b(x), x < "+pick(w.writer, "4", "9", "15", "57", "58", "80")+".\n",
		"b(x * x + 1) :- b(x).\n", "b(x - y) :- b(x), b(y), x != 2.\n", "b(y) :- b(x), a(x, y).\n",
		"a(x, z) :- a(x, y), a(y, z).\n", "a(y, x) :- a(x, y).\n", "a(x, y) :- b(x), b(y).\n", "a(x, y + 1) :- a(x, y), b(y).\n", "a(x, x * 999) :- a(x, y), y < 9.\n",
		"c(l) :- c(C(_, l)).\n", "c(C(x, l)) :- c(l), b(x).\n", "c(C(1, l)) :- c(l), a(_, _).\n", "d(l, x) :- c(l), b(x).\n", "d(l, x + 1) :- d(C(x, l), x).\n", "c(l) :- d(l, _).\n",
		"s(t, x + 1) :- s(t, x), x < 20.\n", "s(t, x * x) :- s(t, x), a(x, x).\n", "b(x) :- s(_, x).\n",
	)
}

func (w *climbWriter) rule() string {
	if w.IntN(5) < 2 {
		return w.ring()
	}
	var body []string
	for range w.IntN(4) {
		body = append(body, w.literal())
	}
	if w.not && w.IntN(3) == 0 {
		body = append(body, "!"+w.atom())
	}
	if len(body) == 0 {
		return w.head() + ".\n"
	}
	return w.head() + " :- " + strings.Join(body, ", ") + ".\n"
}

func (w *climbWriter) program() (impl.Prog, bool) {
	all, _, _ := impl.Parse(fireDeclarations)
	for range 1 + w.IntN(6) {
		p, _, code := impl.Parse(fireDeclarations + w.rule())
		if code == impl.SyOK {
			all.Rules = append(all.Rules, w.grounded(p).Rules[0])
		}
	}
	return all, len(all.Rules) > 0 && impl.Ready(all)
}

// lessGreat mostly leaves the rows out of which a sum would be over at once.
func (w *climbWriter) lessGreat(d impl.Db) impl.Db {
	if w.IntN(5) == 0 {
		return d
	}
	for i, r := range d.Rels {
		d.Rels[i].Rows = slices.DeleteFunc(r.Rows, func(x impl.Tuple) bool { return strings.Contains(strings.Join(x.T, " "), "1000000") })
	}
	return d
}

// eachClimb calls with programs that are Ready and a Db for each, always the same
// ones.
func eachClimb(n int, not bool, call func(w *climbWriter, p impl.Prog, d impl.Db)) {
	w := &climbWriter{&fireWriter{&writer{Rand: rand.New(rand.NewPCG(269, 271))}, not}}
	for made := 0; made < n; {
		if p, ok := w.program(); ok {
			call(w, p, w.lessGreat(w.drawn(p, w.IntN(len(p.Rules)), 3)))
			made++
		}
	}
}

func (w *climbWriter) count(met map[string]int, kinds map[string]bool) {
	for kind, came := range kinds {
		if came {
			met[kind]++
		}
	}
}

func isAsking(p impl.Prog, kind int) bool {
	return slices.ContainsFunc(p.Rules, func(r impl.Rule) bool {
		return slices.ContainsFunc(r.Body, func(l impl.Lit) bool { return l.Kind == kind })
	})
}

// hasAllRows tells whether each row of one Db is one of another.
func hasAllRows(d, of impl.Db) bool {
	return !slices.ContainsFunc(less(of, d).Rels, func(r impl.Rel) bool { return len(r.Rows) > 0 })
}

func TestRoundsOfMadeUpPrograms(t *testing.T) {
	met := map[string]int{}
	eachClimb(1200, true, func(w *climbWriter, p impl.Prog, d impl.Db) {
		for s := -1; s <= strataCount(p); s++ {
			want, code := wantedRound(p, d, s)
			wantRoundOf(t, p, d, s, want, code)
			w.count(met, map[string]bool{"rows": code == impl.PfOK && !sameDb(d, want), "nothing": sameDb(d, want), "over": code == impl.PfOver, "later rows": s > 0 && code == impl.PfOK && !sameDb(d, want)})
		}
		if got, want := impl.Holds(p, d), wantedHolds(p, d); got != want {
			t.Errorf("Holds of %s over %q is %v", rulesText(p), factWords(p, d), got)
		}
		w.count(met, map[string]bool{"holds": impl.Holds(p, d), "does not": !impl.Holds(p, d)})
	})
	wantEach(t, met, 100, "rows", "nothing", "later rows", "holds", "does not")
	wantEach(t, met, 30, "over")
}

// TestPerfectOfMadeUpPrograms: what comes of Perfect is what comes of one Round after
// the other; it has what was given, and Holds; once more it gives no more.
func TestPerfectOfMadeUpPrograms(t *testing.T) {
	met := map[string]int{}
	eachClimb(800, true, func(w *climbWriter, p impl.Prog, d impl.Db) {
		want, rounds, code := wantedPerfect(p, d)
		wantPerfectOf(t, p, d, want, rounds, code)
		w.count(met, map[string]bool{
			"over": code == impl.PfOver, "many": code == impl.PfMany, "rounds": code == impl.PfRounds, "over later": code == impl.PfOver && rounds > 1, "over much later": code == impl.PfOver && rounds > 4, "many later": code == impl.PfMany && rounds > 1,
			"new": code == impl.PfOK && !sameDb(d, want), "nothing new": sameDb(d, want), "many rounds": code == impl.PfOK && rounds > 4, "strata": code == impl.PfOK && strataCount(p) > 1, "three strata": code == impl.PfOK && strataCount(p) > 2,
		})
		if code != impl.PfOK {
			return
		}
		wantDbOk(t, "what follows", p, want, true)
		if !hasAllRows(want, d) || !impl.Holds(p, want) || !wantedHolds(p, want) {
			t.Errorf("what follows of %s over %q is %q", rulesText(p), factWords(p, d), factWords(p, want))
		}
		wantPerfectOf(t, p, want, want, strataCount(p), impl.PfOK)
	})
	wantEach(t, met, 100, "new", "nothing new", "strata")
	wantEach(t, met, 20, "over", "many", "over later", "many later", "over much later", "many rounds", "three strata")
	wantEach(t, met, 5, "rounds")
}

// TestWhatFollowsIsTheLeast: where nothing is asked for not being there, it does not
// hold without any one row that was not given, and of more that is given no less
// follows.
func TestWhatFollowsIsTheLeast(t *testing.T) {
	met := map[string]int{}
	eachClimb(600, false, func(w *climbWriter, p impl.Prog, d impl.Db) {
		e, _, code := impl.Perfect(p, d)
		if code != impl.PfOK || isAsking(p, impl.LtNot) {
			return
		}
		for i, r := range e.Rels {
			for j, x := range r.Rows {
				if impl.RelHas(d.Rels[i], x) {
					continue
				}
				met["row"]++
				if j%8 == 0 && impl.Holds(p, withoutRow(e, i, j)) {
					t.Errorf("%s holds over %q without %v", rulesText(p), factWords(p, e), x)
				}
				if j%64 == 0 {
					more := impl.Db{Rels: slices.Clone(d.Rels)}
					more.Rels[i], _ = impl.RelPut(d.Rels[i], x)
					for _, given := range []impl.Db{withoutRow(e, i, j), more} {
						if all, _, code := impl.Perfect(p, given); code != impl.PfOK || !sameDb(all, e) {
							t.Errorf("of %s over %q %q follows, with %v or without it", rulesText(p), factWords(p, given), factWords(p, all), x)
						}
					}
				}
			}
		}
		more := impl.Db{Rels: slices.Clone(d.Rels)}
		for i, r := range w.drawn(p, w.IntN(len(p.Rules)), 1).Rels {
			more.Rels[i], _ = impl.RelJoin(d.Rels[i], r)
		}
		all, _, code := impl.Perfect(p, more)
		if code == impl.PfOK && !hasAllRows(all, e) {
			t.Errorf("of %s over %q less follows than over %q", rulesText(p), factWords(p, more), factWords(p, d))
		}
		w.count(met, map[string]bool{"more": code == impl.PfOK && !sameDb(all, e)})
	})
	wantEach(t, met, 200, "row", "more")
}

// TestOutputsOfMadeUpPrograms: out alone has MdOutput.
func TestOutputsOfMadeUpPrograms(t *testing.T) {
	met := map[string]int{}
	eachClimb(300, true, func(w *climbWriter, p impl.Prog, d impl.Db) {
		if e, _, code := impl.Perfect(p, d); code == impl.PfOK {
			d = e
		}
		want := impl.DbEmpty(p)
		out := placeOf(p, "out")
		want.Rels[out] = d.Rels[out]
		if e := impl.Outputs(p, d); !sameDb(e, want) {
			t.Errorf("Outputs of %q is %v", factWords(p, d), e)
		}
		w.count(met, map[string]bool{"rows": len(d.Rels[out].Rows) > 0})
	})
	wantEach(t, met, 50, "rows")
}

func TestClimbsLeaveTheirArgumentsAsTheyWere(t *testing.T) {
	eachClimb(250, true, func(w *climbWriter, p impl.Prog, d impl.Db) {
		q, roomyD := withRoom(p), roomyDb(d)
		before, beforeD := unrolled(q), wholeDb(roomyD)
		want, rounds, code := impl.Perfect(p, d)
		wantPerfectOf(t, q, roomyD, want, rounds, code)
		for s := range strataCount(p) {
			want, code := impl.Round(p, d, s)
			wantRoundOf(t, q, roomyD, s, want, code)
		}
		if impl.Holds(q, roomyD) != impl.Holds(p, d) || !sameDb(impl.Outputs(q, roomyD), impl.Outputs(p, d)) {
			t.Errorf("of %s the room behind the lists is told", rulesText(p))
		}
		if !reflect.DeepEqual(before, unrolled(q)) || beforeD != wholeDb(roomyD) {
			t.Fatalf("an argument was written into: %v, %v", q, roomyD)
		}
	})
}

func TestWhatLiesBehindTheListsOfAClimbIsNotRead(t *testing.T) {
	p := parsed(t, declarations+"num(x) :- edge(x, _). sym(\"a\") :- !num(7). list(Nil) :- num(3).")
	want := dbOf(t, p, "edge(1,2) num(1) sym(\"a\")")
	d := dbOf(t, p, "edge(1,2)")
	edge := placeOf(p, "edge")
	d.Rels[edge] = roomyRel(d.Rels[edge], row("3", "4"))
	d.Rels = roomy(d.Rels, rel(0))
	wantPerfectOf(t, p, d, want, 4, impl.PfOK)
	wantRoundOf(t, p, d, 0, dbOf(t, p, "edge(1,2) num(1)"), impl.PfOK)
	full := impl.Db{Rels: slices.Clone(want.Rels)}
	full.Rels[edge] = roomyRel(full.Rels[edge], row("3", "4"))
	full.Rels[placeOf(p, "list")] = roomyRel(full.Rels[placeOf(p, "list")], row("Nil"))
	if !impl.Holds(p, full) || !sameDb(impl.Outputs(p, full), impl.DbEmpty(p)) {
		t.Error("rows behind those of a relation are read")
	}
	// A rule behind the end of the list is none.
	p.Rules = p.Rules[:1]
	wantPerfectOf(t, p, d, dbOf(t, p, "edge(1,2) num(1)"), 2, impl.PfOK)
	d.Rels = d.Rels[:edge]
	wantFormlessClimb(t, "with relations behind the list", p, d)
}

// spoilDb writes into all lists of an answer and into the room behind them, and tells
// whether two of them share it.
func spoilDb(d impl.Db) bool {
	var rows []impl.Tuple
	isShared := false
	for _, r := range d.Rels[:cap(d.Rels)] {
		isShared = isShared || !spoil(slices.Clone(r.Rows[:cap(r.Rows)]))
		rows = append(rows, r.Rows[:cap(r.Rows)]...)
		clear(r.Rows[:cap(r.Rows)])
	}
	clear(d.Rels[:cap(d.Rels)])
	return isShared || !spoil(rows)
}

// TestEachAnswerOfAClimbIsNew writes into one answer and asks again. Half of the
// relations are given and stay as they were, so it is they that may be shared.
func TestEachAnswerOfAClimbIsNew(t *testing.T) {
	p := parsed(t, declarations+"edge(x, z) :- edge(x, y), edge(y, z). num(x) :- edge(x, _). num(y) :- edge(_, y). sym(\"b\") :- !num(9). list(Cons(x, l)) :- num(x), list(l), x < 2, l = Nil.")
	given := `edge(1,2) edge(2,3) name(1,"a") name(2,"b") list(Nil) list(Cons(7,Nil)) tree(Leaf) none()`
	d := dbOf(t, p, given)
	before := wholeDb(d)
	for range 30 {
		e, rounds, code := impl.Perfect(p, d)
		if want := dbOf(t, p, given+` edge(1,3) num(1) num(2) num(3) sym("b") list(Cons(1,Nil))`); rounds != 5 || code != impl.PfOK || !sameDb(e, want) {
			t.Fatalf("Perfect is %q, %d, %d", factWords(p, e), rounds, code)
		}
		one, _ := impl.Round(p, d, 0)
		later, _ := impl.Round(p, d, 1)
		none, _ := impl.Round(p, d, -1)
		if !sameDb(none, d) || !sameDb(later, dbOf(t, p, given+` sym("b")`)) || !sameDb(one, dbOf(t, p, given+" edge(1,3) num(1) num(2) num(3)")) {
			t.Fatalf("Round is %v, %v, %v", one, later, none)
		}
		out := impl.Outputs(p, d)
		if !sameDb(out, dbOf(t, p, "list(Nil) list(Cons(7,Nil))")) {
			t.Fatalf("Outputs is %v", out)
		}
		for _, answer := range []impl.Db{e, one, later, none, out} {
			if spoilDb(answer) {
				t.Fatal("two lists of one answer share memory")
			}
		}
		if wholeDb(d) != before {
			t.Fatalf("an answer shares memory with an argument: %v", d)
		}
	}
}

// TestTheSameAnswerWhicheverRelationEndsFirst has, of as many relations as may be, a
// short rule and a long one each, and others whose codes are not the same.
func TestTheSameAnswerWhicheverRelationEndsFirst(t *testing.T) {
	letters := allLetters()
	s, rules := "", ""
	for i := range letters {
		name, next := letters[i:i+1], letters[(i+1)%len(letters):(i+1)%len(letters)+1]
		s += "rel " + name + "(number, number). "
		rules += name + "(x, y) :- " + next + "(y, x). "
		if i%2 == 0 {
			rules += name + "(x, z) :- " + next + "(x, y), " + next + "(y, z), " + next + "(z, x). "
		}
	}
	over, many := "a(x, y + 1000000) :- b(x, y), x = 2. ", "t(x, y) :- b(x, y), b(_, _), b(_, _). "
	for _, more := range []string{"", over + many, many + over} {
		p := parsed(t, s+rules+more)
		d := impl.DbEmpty(p)
		for i := range d.Rels {
			d.Rels[i] = rel(2, row("1", impl.NumText(i%5)), row("2", "1"), row(impl.NumText(3+i%3), "1"))
		}
		want, rounds, code := wantedPerfect(p, d)
		if isOver := more != "" && more[0] == 'a'; code != map[bool]int{true: impl.PfOver, false: impl.PfOK}[isOver] && more != many+over {
			t.Errorf("with %q the code is %d", more, code)
		}
		for range 25 {
			wantPerfectOf(t, p, d, want, rounds, code)
		}
	}
}
