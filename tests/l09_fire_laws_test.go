package tests

import (
	"maps"
	"math/rand/v2"
	"reflect"
	"slices"
	"strings"
	"testing"

	"loop.example/g00531/impl"
)

// fired is what is wanted of a rule over a Db, told as chapter 9 tells it; each
// step begins with what is asked of it anew.
type fired struct {
	p       impl.Prog
	r       impl.Rule
	d       impl.Db
	fresh   *impl.Db // where there is one, a way has a row of it
	vars    [][]string
	pattern []bool
	tries   int
	ways    []map[string]string
	code    int
}

// wantedFired wants a program that is Ready and Dbs that are DbOk.
func wantedFired(p impl.Prog, n int, d impl.Db, fresh *impl.Db) *fired {
	f := &fired{p: p, r: p.Rules[n], d: d, fresh: fresh}
	for at := range f.r.Exps {
		f.vars, f.pattern = append(f.vars, wantedVars(f.r, at)), append(f.pattern, !hasSum(f.r, at))
	}
	f.take(nil)
	if f.code != impl.FrOK {
		f.ways = nil
	}
	return f
}

func (f *fired) atoms() []impl.Lit {
	return slices.DeleteFunc(slices.Clone(f.r.Body), func(l impl.Lit) bool { return l.Kind != impl.LtAtom })
}

// take has the rows that were taken so far, one for each of the first atoms.
func (f *fired) take(rows []impl.Tuple) {
	atoms := f.atoms()
	if len(rows) == len(atoms) {
		f.end(rows)
		return
	}
	for _, x := range f.d.Rels[placeOf(f.p, atoms[len(rows)].Name)].Rows {
		if f.code != impl.FrOK {
			return
		}
		f.tries++
		more := append(slices.Clone(rows), x)
		if f.tries > impl.MaxTries {
			f.code = impl.FrMany
		} else if _, _, ok := f.fitAll(more); ok {
			f.take(more)
		}
	}
}

// fitAll is what names have, and what sums must be, when rows fit the first atoms.
func (f *fired) fitAll(rows []impl.Tuple) (map[string]string, map[int]string, bool) {
	vals, sums := map[string]string{}, map[int]string{}
	for i, l := range f.atoms()[:len(rows)] {
		for j, a := range l.Args {
			if !f.fit(a, rows[i].T[j], vals, func(n int, s string) bool { sums[n] = s; return true }) {
				return nil, nil, false
			}
		}
	}
	return vals, sums, true
}

func (f *fired) fit(n int, s string, vals map[string]string, sum func(int, string) bool) bool {
	e := f.r.Exps[n]
	switch e.Kind {
	case impl.ExAny:
		return true
	case impl.ExTerm:
		return e.Text == s
	case impl.ExVar:
		if _, there := vals[e.Text]; !there {
			vals[e.Text] = s
		}
		return vals[e.Text] == s
	case impl.ExCon:
		name, args := impl.TermParts(s)
		if name != e.Text || len(args) != len(e.Kids) {
			return false
		}
		for i, k := range e.Kids {
			if !f.fit(k, args[i], vals, sum) {
				return false
			}
		}
		return true
	}
	return sum(n, s)
}

func (f *fired) isFresh(rows []impl.Tuple) bool {
	for i, l := range f.atoms() {
		if impl.RelHas(f.fresh.Rels[placeOf(f.p, l.Name)], rows[i]) {
			return true
		}
	}
	return false
}

// undone is a sum, or a literal.
type undone struct {
	sum int
	lit impl.Lit
}

func (f *fired) all(sums map[int]string) []undone {
	var list []undone
	for _, n := range slices.Sorted(maps.Keys(sums)) {
		list = append(list, undone{sum: n})
	}
	// The Exps of a rule that is sound stand in the order of its literals.
	for _, l := range f.r.Body {
		if l.Kind != impl.LtAtom {
			list = append(list, undone{lit: l})
		}
	}
	return list
}

func (f *fired) known(vals map[string]string, exps ...int) bool {
	for _, n := range exps {
		for _, name := range f.vars[n] {
			if _, there := vals[name]; !there {
				return false
			}
		}
	}
	return true
}

// sides are the side of an equation that is taken, and the other one.
func (f *fired) sides(l impl.Lit, vals map[string]string) (int, int, bool) {
	a, b := l.Args[0], l.Args[1]
	if !f.known(vals, a) {
		a, b = b, a
	}
	return a, b, f.known(vals, a) && (f.known(vals, b) || f.pattern[b])
}

func (f *fired) isReady(u undone, vals map[string]string) bool {
	switch {
	case u.lit.Kind == 0:
		return f.known(vals, u.sum)
	case u.lit.Name == "=" && u.lit.Kind == impl.LtCmp:
		_, _, ok := f.sides(u.lit, vals)
		return ok
	}
	return f.known(vals, u.lit.Args...)
}

// end does all that is to be done when the rows fit, for one way.
func (f *fired) end(rows []impl.Tuple) {
	vals, sums, _ := f.fitAll(rows)
	if f.fresh != nil && !f.isFresh(rows) {
		return
	}
	for list := f.all(sums); len(list) > 0; {
		i := slices.IndexFunc(list, func(u undone) bool { return f.isReady(u, vals) })
		switch f.do(list[i], vals, sums) {
		case "over":
			f.code = impl.FrOver
			return
		case "not so":
			return
		}
		list = slices.Delete(list, i, i+1)
	}
	f.ways = append(f.ways, vals)
	if len(f.ways) > impl.MaxRows {
		f.code = impl.FrMany
	}
}

func answer(so bool) string { return map[bool]string{true: "so", false: "not so"}[so] }

func (f *fired) value(n int, vals map[string]string) (string, bool) {
	value, _, code := wantedValue(f.r, n, vals)
	return value, code == 0
}

func (f *fired) do(u undone, vals map[string]string, sums map[int]string) string {
	switch {
	case u.lit.Kind == 0:
		value, ok := f.value(u.sum, vals)
		if !ok {
			return "over"
		}
		return answer(value == sums[u.sum])
	case u.lit.Kind == impl.LtNot:
		return f.isAbsent(u.lit, vals)
	}
	side, other := u.lit.Args[0], u.lit.Args[1]
	if u.lit.Name == "=" {
		side, other, _ = f.sides(u.lit, vals)
	}
	a, okA := f.value(side, vals)
	if okA && !f.known(vals, other) {
		return answer(f.fit(other, a, vals, nil))
	}
	b, okB := f.value(other, vals)
	if !okA || !okB {
		return "over"
	}
	return answer(map[string]bool{"=": a == b, "!=": a != b, "<": impl.TermCmp(a, b) == -1, "<=": impl.TermCmp(a, b) != 1}[u.lit.Name])
}

func (f *fired) isAbsent(l impl.Lit, vals map[string]string) string {
	over := false
	sum := func(n int, s string) bool {
		value, ok := f.value(n, vals)
		over = over || !ok
		return ok && value == s
	}
	for _, x := range f.d.Rels[placeOf(f.p, l.Name)].Rows {
		fits := true
		for _, patterns := range []bool{true, false} {
			for j, a := range l.Args {
				fits = fits && (patterns && !f.pattern[a] || f.fit(a, x.T[j], vals, sum))
			}
		}
		if over {
			return "over"
		}
		if fits {
			return "not so"
		}
	}
	return "so"
}

func (f *fired) matches() []string {
	var texts []string
	for _, vals := range f.ways {
		var pairs []string
		for _, name := range namesOf(f.r) {
			pairs = append(pairs, name+"="+vals[name])
		}
		texts = append(texts, strings.Join(pairs, " "))
	}
	return texts
}

func (f *fired) rows() (impl.Rel, int) {
	all := impl.Rel{Arity: len(f.r.Head.Args)}
	for _, vals := range f.ways {
		var x impl.Tuple
		for _, a := range f.r.Head.Args {
			value, ok := f.value(a, vals)
			if !ok {
				return impl.Rel{}, impl.FrOver
			}
			x.T = append(x.T, value)
		}
		all, _ = impl.RelPut(all, x)
	}
	if f.code != impl.FrOK {
		return impl.Rel{}, f.code
	}
	return all, impl.FrOK
}

// fireWriter makes rules up of a few names for numbers and lists, so that rows
// often fit.
type fireWriter struct {
	*writer
	not bool // whether a LtNot may stand in a body
}

const fireDeclarations = `type L = N | C(number, L).
rel a(number, number). rel b(number). rel c(L). rel d(L, number). rel s(symbol, number). rel o(). rel out(number, L) output. rel both(L, symbol).
`

func (w *fireWriter) number(depth int, others ...string) string {
	if depth > 0 && w.IntN(4) == 0 {
		return "(" + w.number(depth-1) + pick(w.writer, " + ", " - ", " * ") + w.number(depth-1) + ")"
	}
	if w.IntN(25) == 0 {
		return "1000000"
	}
	return pick(w.writer, append(others, "x", "y", "z", "x", "y", "z", "0", "1", "2")...)
}

func (w *fireWriter) list(depth int, others ...string) string {
	if depth > 0 && w.IntN(3) == 0 {
		return "C(" + w.number(1, others...) + ", " + w.list(depth-1, others...) + ")"
	}
	return pick(w.writer, append(others, "l", "m", "l", "m", "N")...)
}

func (w *fireWriter) symbol(others ...string) string {
	return pick(w.writer, append(others, `"a"`, "t", "t", "u")...)
}

func (w *fireWriter) atom() string {
	switch w.IntN(8) {
	case 0, 1, 2:
		return "a(" + w.number(1, "_") + ", " + w.number(2, "_") + ")"
	case 3:
		return "b(" + w.number(1, "_") + ")"
	case 4:
		return "c(" + w.list(2, "_") + ")"
	case 5:
		return "s(" + w.symbol("_") + ", " + w.number(1, "_") + ")"
	case 6:
		return "o()"
	}
	return "d(" + w.list(2, "_") + ", " + w.number(1, "_") + ")"
}

func (w *fireWriter) literal() string {
	switch w.IntN(9) {
	case 0, 1:
		return w.number(2) + pick(w.writer, " = ", " = ", " != ", " < ", " <= ") + w.number(2)
	case 2:
		return w.list(2) + pick(w.writer, " = ", " = ", " != ") + w.list(2)
	case 3:
		return w.symbol() + pick(w.writer, " = ", " != ") + w.symbol()
	case 4:
		if w.not {
			return "!" + w.atom()
		}
	}
	return w.atom()
}

func (w *fireWriter) rule() string {
	var body []string
	for range w.IntN(6) {
		body = append(body, w.literal())
	}
	head := "out(" + w.number(2) + ", " + w.list(2) + ")"
	if w.IntN(3) == 0 {
		head = "both(" + w.list(1) + ", " + w.symbol() + ")"
	}
	if len(body) == 0 {
		return head + ".\n"
	}
	return head + " :- " + strings.Join(body, ", ") + ".\n"
}

func (w *fireWriter) value(name string) string {
	switch name {
	case "number":
		return pick(w.writer, "-1", "0", "1", "2", "0", "1", "2", "3", "0", "1", "2", "1000000")
	case "symbol":
		return pick(w.writer, `"a"`, `"b"`)
	case "L":
		if w.IntN(2) == 0 {
			return "N"
		}
		return "C(" + w.value("number") + "," + w.value(name) + ")"
	}
	return valueOf(w.writer, name, 2)
}

// drawn is a Db with few rows, those among them that the literals of a rule are
// with some values for its names.
func (w *fireWriter) drawn(p impl.Prog, n, most int) impl.Db {
	d := impl.DbEmpty(p)
	put := func(at int, terms []string) { // a row that is there, or none, is left out
		if r, ok := impl.RelPut(d.Rels[at], impl.Tuple{T: terms}); ok {
			d.Rels[at] = r
		}
	}
	for at, decl := range p.Rels {
		for range w.IntN(most + 1) {
			var terms []string
			for _, name := range decl.Types {
				terms = append(terms, w.value(name))
			}
			put(at, terms)
		}
	}
	for range 1 + w.IntN(3) {
		vals := map[string]string{}
		for _, v := range impl.VarTypes(p, n) {
			vals[v.Name] = w.value(v.Type)
		}
		for _, l := range p.Rules[n].Body {
			if l.Kind == impl.LtAtom {
				put(placeOf(p, l.Name), w.planted(p, p.Rules[n], l, vals))
			}
		}
	}
	return d
}

// planted is the row that a literal is with values, with any for each ExAny; it has
// too few terms where a sum is over.
func (w *fireWriter) planted(p impl.Prog, r impl.Rule, l impl.Lit, vals map[string]string) []string {
	decl, _ := relNamed(p, l.Name)
	var terms []string
	for i, a := range l.Args {
		value, _, code := wantedValue(r, a, vals)
		if r.Exps[a].Kind == impl.ExAny {
			value, code = w.value(decl.Types[i]), 0
		}
		if code == 0 {
			terms = append(terms, value)
		}
	}
	return terms
}

// part has some of the rows of a Db, and all of some of its relations.
func (w *fireWriter) part(d impl.Db) impl.Db {
	var less impl.Db
	for _, r := range d.Rels {
		few := impl.Rel{Arity: r.Arity}
		share := w.IntN(4)
		for _, x := range r.Rows {
			if w.IntN(3) < share {
				few.Rows = append(few.Rows, x)
			}
		}
		less.Rels = append(less.Rels, few)
	}
	return less
}

// grounded has, for each name that is not bound, one of the same type that is, or a
// term.
func (w *fireWriter) grounded(p impl.Prog) impl.Prog {
	r := p.Rules[0]
	bound := impl.Bound(r)
	for at, e := range r.Exps {
		if e.Kind != impl.ExVar || slices.Contains(bound, e.Text) {
			continue
		}
		kind, other := "tu", term(`"a"`)
		if strings.Contains("xyz", e.Text) {
			kind, other = "xyz", term("1")
		} else if strings.Contains("lm", e.Text) {
			kind, other = "lm", construct("N")
		}
		if i := slices.IndexFunc(bound, func(name string) bool { return strings.Contains(kind, name) }); i >= 0 {
			other = variable(bound[i])
		}
		r.Exps[at] = other
	}
	return p
}

// eachFired calls with programs of one rule that are Ready and a Db for each,
// always the same ones.
func eachFired(n int, not bool, call func(w *fireWriter, p impl.Prog, d impl.Db)) {
	w := &fireWriter{&writer{Rand: rand.New(rand.NewPCG(233, 239))}, not}
	for made := 0; made < n; {
		p, _, code := impl.Parse(fireDeclarations + w.rule())
		if code != impl.SyOK {
			continue
		}
		p = w.grounded(p)
		if impl.Ready(p) {
			call(w, p, w.drawn(p, 0, 4))
			made++
		}
	}
}

// checkFired holds all three functions against what is wanted, and counts what
// came.
func checkFired(t *testing.T, p impl.Prog, n int, d, fresh impl.Db, met map[string]int) {
	t.Helper()
	f := wantedFired(p, n, d, nil)
	list, code := impl.Matches(p, n, d)
	if got := matchTexts(list); code != f.code || !slices.Equal(got, f.matches()) {
		t.Errorf("Matches of %s over %v = %q, %d, want %q, %d", impl.RuleText(f.r), d, got, code, f.matches(), f.code)
	}
	want, wantCode := f.rows()
	if r, code := impl.Fire(p, n, d); code != wantCode || !sameRel(r, want) {
		t.Errorf("Fire of %s over %v = %v, %d, want %v, %d", impl.RuleText(f.r), d, r, code, want, wantCode)
	}
	wantNew, wantNewCode := wantedFired(p, n, d, &fresh).rows()
	if r, code := impl.FireNew(p, n, d, fresh); code != wantNewCode || !sameRel(r, wantNew) {
		t.Errorf("FireNew of %s over %v with %v = %v, %d, want %v, %d", impl.RuleText(f.r), d, fresh, r, code, wantNew, wantNewCode)
	}
	for kind, came := range map[string]bool{
		"matches": len(list) > 0, "many matches": len(list) > 3, "no match": code == impl.FrOK && len(list) == 0, "over": code == impl.FrOver, "head over": code != wantCode,
		"rows": len(want.Rows) > 1, "fewer rows than matches": len(want.Rows) > 0 && len(want.Rows) < len(list), "new rows": len(wantNew.Rows) > 0, "fewer new rows": len(wantNew.Rows) > 0 && len(wantNew.Rows) < len(want.Rows), "new over": wantNewCode == impl.FrOver, "not over by what is new": wantNewCode < wantCode,
	} {
		if came {
			met[kind]++
		}
	}
}

func TestWhatMadeUpRulesGive(t *testing.T) {
	met := map[string]int{}
	eachFired(3000, true, func(w *fireWriter, p impl.Prog, d impl.Db) {
		checkFired(t, p, 0, d, w.part(d), met)
	})
	wantEach(t, met, 100, "matches", "many matches", "no match", "over", "rows", "fewer rows than matches", "new rows")
	wantEach(t, met, 25, "new over", "head over", "fewer new rows", "not over by what is new")
}

// less has the rows of one Db that another one has not.
func less(d, other impl.Db) impl.Db {
	var few impl.Db
	for i, r := range d.Rels {
		few.Rels = append(few.Rels, impl.RelLess(r, other.Rels[i]))
	}
	return few
}

// oneRow has a row of a Db alone, if there is one.
func (w *fireWriter) oneRow(d impl.Db) impl.Db {
	one := impl.Db{Rels: slices.Clone(d.Rels)}
	var all [][2]int
	for i, r := range d.Rels {
		one.Rels[i].Rows = nil
		for j := range r.Rows {
			all = append(all, [2]int{i, j})
		}
	}
	if len(all) > 0 {
		at := pick(w.writer, all...)
		one.Rels[at[0]].Rows = []impl.Tuple{d.Rels[at[0]].Rows[at[1]]}
	}
	return one
}

// TestOfMoreRowsCome what came of fewer rows and what comes with new ones.
func TestOfMoreRowsCome(t *testing.T) {
	met := map[string]int{}
	look := func(w *fireWriter, p impl.Prog, d, fresh impl.Db) {
		all, code := impl.Fire(p, 0, d)
		old, oldCode := impl.Fire(p, 0, less(d, fresh))
		news, newCode := impl.FireNew(p, 0, d, fresh)
		if code != max(oldCode, newCode) {
			t.Errorf("%s over %v has the code %d, without %v %d, with it %d", impl.RuleText(p.Rules[0]), d, code, fresh, oldCode, newCode)
		}
		if code != impl.FrOK {
			met["over"]++
			return
		}
		if both, ok := impl.RelJoin(old, news); !ok || !sameRel(both, all) {
			t.Errorf("%s over %v gives %v, without %v it gives %v, with it %v", impl.RuleText(p.Rules[0]), d, all, fresh, old, news)
		}
		for kind, came := range map[string]bool{"rows": len(all.Rows) > 0, "both": len(old.Rows) > 0 && len(news.Rows) > 0, "some new": len(old.Rows) < len(all.Rows), "some in both": len(old.Rows)+len(news.Rows) > len(all.Rows)} {
			if came {
				met[kind]++
			}
		}
	}
	eachFired(1500, false, func(w *fireWriter, p impl.Prog, d impl.Db) {
		look(w, p, d, w.part(d))
		look(w, p, d, w.oneRow(d))
	})
	wantEach(t, met, 100, "over", "rows", "both", "some new")
	wantEach(t, met, 30, "some in both")
}

// TestValuesOfNamesHaveTheirTypes: what is Ready is grounded, what is grounded is
// typed, and each value that a rule gives to a name has the type of the name.
func TestValuesOfNamesHaveTheirTypes(t *testing.T) {
	met := map[string]int{}
	look := func(w *fireWriter, p impl.Prog, n int, d impl.Db) {
		wantGround(t, p, -1, impl.GrOK)
		wantTypes(t, p, -1, impl.TyOK)
		wantDbOk(t, "a Db that is made up", p, d, true)
		list, _ := impl.Matches(p, n, d)
		types := impl.VarTypes(p, n)
		for _, m := range list {
			if len(m.Names) != len(types) || len(m.Vals) != len(types) {
				t.Fatalf("%v is a match of %s", m, impl.RuleText(p.Rules[n]))
			}
			for i, v := range types {
				if m.Names[i] != v.Name || !impl.TermHas(p, m.Vals[i], v.Type) {
					t.Errorf("of %s the match %v has not the types %v", impl.RuleText(p.Rules[n]), m, types)
				}
				met[v.Type]++
			}
		}
		if r, code := impl.Fire(p, n, d); code == impl.FrOK {
			with := impl.DbEmpty(p)
			with.Rels[placeOf(p, p.Rules[n].Head.Name)] = r
			wantDbOk(t, "what a rule gives", p, with, true)
		}
	}
	eachFired(600, true, func(w *fireWriter, p impl.Prog, d impl.Db) { look(w, p, 0, d) })
	w := &fireWriter{writer: &writer{Rand: rand.New(rand.NewPCG(241, 251))}}
	eachTyped(1500, 0, func(p impl.Prog) {
		if p = withoutAny(p); impl.Ready(p) {
			for n := range p.Rules {
				look(w, p, n, w.drawn(p, n, 3))
			}
		}
	})
	eachRing(150, func(p impl.Prog) {
		if impl.Ready(p) {
			look(w, p, 0, w.drawn(p, 0, 3))
		}
	})
	wantEach(t, met, 100, "number", "L", "symbol", "T")
	wantEach(t, met, 10, "List", "Tree")
}

// TestAlongArcsOfMatches: of each way in which a rule holds the head has, at the end
// of an arc, what a row that fits the literal has at its beginning, or what is
// Inside that.
func TestAlongArcsOfMatches(t *testing.T) {
	met := map[bool]int{}
	w := &fireWriter{writer: &writer{Rand: rand.New(rand.NewPCG(257, 263))}}
	eachRing(700, func(p impl.Prog) {
		if !impl.Ready(p) {
			return
		}
		graphs := impl.GraphsOf(p)
		for i, rl := range ringLits(p) {
			d := w.drawn(p, rl.rule, 2)
			list, code := impl.Matches(p, rl.rule, d)
			if code == impl.FrMany {
				t.Errorf("%s has the code %d", impl.RuleText(p.Rules[rl.rule]), code)
			}
			f := &fired{p: p, r: p.Rules[rl.rule], d: d}
			for _, m := range list {
				rows := f.rowsThatFit(rl.lit, m)
				if len(rows) == 0 {
					t.Errorf("no row fits %v of %s with %v", rl.lit, impl.RuleText(f.r), m)
				}
				for _, x := range rows {
					for _, a := range graphs[i].Arcs {
						before := x.T[a.A]
						after, _ := impl.ExpValue(f.r, f.r.Head.Args[a.B], m.Names, m.Vals)
						if a.Strict && !impl.Inside(after, before) || !a.Strict && after != before {
							t.Errorf("%v of %s leads from %s to %s", a, impl.RuleText(f.r), before, after)
						}
						met[a.Strict]++
					}
				}
			}
		}
	})
	if min(met[true], met[false]) < 100 {
		t.Errorf("there were %v arcs", met)
	}
}

// rowsThatFit are those of a literal's relation that fit it with the values of m.
func (f *fired) rowsThatFit(l impl.Lit, m impl.Match) []impl.Tuple {
	vals := map[string]string{}
	for i, name := range m.Names {
		vals[name] = m.Vals[i]
	}
	sum := func(n int, s string) bool {
		value, ok := f.value(n, vals)
		return ok && value == s
	}
	return slices.DeleteFunc(slices.Clone(f.d.Rels[placeOf(f.p, l.Name)].Rows), func(x impl.Tuple) bool {
		for j, a := range l.Args {
			if !f.fit(a, x.T[j], vals, sum) {
				return true
			}
		}
		return false
	})
}

// roomyDb has rubbish behind all of its lists.
func roomyDb(d impl.Db) impl.Db {
	rels := roomy(d.Rels, rel(0, row("behind")))
	for i, r := range rels {
		rels[i] = roomyRel(r, row("behind"))
	}
	return impl.Db{Rels: rels}
}

// wholeDb tells all that is in a Db, and behind its lists.
func wholeDb(d impl.Db) string {
	var s strings.Builder
	for _, r := range d.Rels[:cap(d.Rels)] {
		s.WriteString(whole(r) + "; ")
	}
	return s.String()
}

func TestFiringLeavesItsArgumentsAsTheyWere(t *testing.T) {
	eachFired(500, true, func(w *fireWriter, p impl.Prog, d impl.Db) {
		fresh := w.part(d)
		q, roomyD, roomyFresh := withRoom(p), roomyDb(d), roomyDb(fresh)
		before, beforeD, beforeFresh := unrolled(q), wholeDb(roomyD), wholeDb(roomyFresh)
		wantDbOk(t, "with room behind the lists", q, roomyD, true)
		checkFired(t, q, 0, roomyD, roomyFresh, map[string]int{})
		if len(impl.DbEmpty(q).Rels) != len(p.Rels) {
			t.Errorf("DbEmpty with room behind the lists is %v", impl.DbEmpty(q))
		}
		if !reflect.DeepEqual(before, unrolled(q)) || beforeD != wholeDb(roomyD) || beforeFresh != wholeDb(roomyFresh) {
			t.Fatalf("an argument was written into: %v, %v, %v", q, roomyD, roomyFresh)
		}
	})
}

func TestWhatLiesBehindTheListsOfADbIsNotRead(t *testing.T) {
	p := parsed(t, declarations+"num(x) :- edge(x, _), !edge(3, _).")
	d := dbOf(t, p, "edge(1,2)")
	d.Rels = roomy(d.Rels, rel(0))
	edge := placeOf(p, "edge")
	d.Rels[edge] = roomyRel(d.Rels[edge], row("3", "4"))
	wantDbOk(t, "with room", p, d, true)
	wantMatchesAt(t, p, 0, d, "x=1")
	wantFreshFormless(t, "a row behind those of d", p, 0, d, dbOf(t, p, "edge(3,4)"))
	fresh := dbOf(t, p, "")
	fresh.Rels[edge] = roomyRel(fresh.Rels[edge], row("1", "2"))
	if r, code := impl.FireNew(p, 0, d, fresh); code != impl.FrOK || len(r.Rows) > 0 {
		t.Errorf("with a row behind those of fresh FireNew is %v, %d", r, code)
	}
	d.Rels = d.Rels[:edge]
	wantDbOk(t, "with relations behind the list", p, d, false)
}

// spoilMatches writes into the lists of an answer and into the room behind them, and
// tells whether two of them share it.
func spoilMatches(list []impl.Match) bool {
	var all [][]string
	for _, m := range list[:cap(list)] {
		all = append(all, m.Names[:cap(m.Names)], m.Vals[:cap(m.Vals)])
	}
	isShared := shared(all, func(list, place int) string { return impl.NumText(list) + " " + impl.NumText(place) })
	clear(list[:cap(list)])
	return isShared
}

// TestEachAnswerOfFiringIsNew writes into one answer and asks again; and asks often,
// as no order of a map may show.
func TestEachAnswerOfFiringIsNew(t *testing.T) {
	p := parsed(t, declarations+"edge(x, z) :- edge(x, y), edge(y, z), t = x + z, u = y, !num(t), !num(u). edge(x, y) :- edge(x, y). edge(1, 2). list(l) :- list(l), l = Cons(x, k), k = Cons(y, m), num(x + y), m = Nil.")
	d := dbOf(t, p, "edge(1,2) edge(2,1) edge(2,3) num(7) list(Cons(3,Cons(4,Nil))) list(Cons(4,Cons(3,Nil)))")
	before := wholeDb(d)
	for range 50 {
		wantMatchesAt(t, p, 0, d, "x=1 z=1 y=2 t=2 u=2", "x=1 z=3 y=2 t=4 u=2", "x=2 z=2 y=1 t=4 u=1")
		wantMatchesAt(t, p, 3, d, "l=Cons(3,Cons(4,Nil)) x=3 k=Cons(4,Nil) y=4 m=Nil", "l=Cons(4,Cons(3,Nil)) x=4 k=Cons(3,Nil) y=3 m=Nil")
		for n := range p.Rules {
			list, _ := impl.Matches(p, n, d)
			r, _ := impl.Fire(p, n, d)
			news, _ := impl.FireNew(p, n, d, d)
			if spoilMatches(list) || !spoil(r.Rows) || !spoil(news.Rows) {
				t.Fatal("two lists of one answer share memory")
			}
		}
		empty := impl.DbEmpty(p)
		for i := range empty.Rels[:cap(empty.Rels)] {
			empty.Rels[:cap(empty.Rels)][i] = rel(9, row("spoilt"))
		}
		wantEmpty(t, p, 0, 1, 1, 1, 1, 2, 2, 6)
		if wholeDb(d) != before {
			t.Fatalf("an answer shares memory with an argument: %v", d)
		}
	}
}
