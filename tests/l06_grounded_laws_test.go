package tests

import (
	"math/rand/v2"
	"reflect"
	"slices"
	"strings"
	"testing"

	"loop.example/g00531/impl"
)

// parent is the exp of whose Kids n is one, and -1 where it is an Arg.
func parent(r impl.Rule, n int) int {
	return slices.IndexFunc(r.Exps, func(e impl.Exp) bool { return slices.Contains(e.Kids, n) })
}

// isIn tells whether exp n is exp top, or within it: it goes up from n.
func isIn(r impl.Rule, n, top int) bool {
	for n >= 0 && n != top {
		n = parent(r, n)
	}
	return n == top
}

func isReckoned(e impl.Exp) bool { return e.Kind > impl.ExCon }

func isInSum(r impl.Rule, n int) bool {
	for at, e := range r.Exps {
		if isReckoned(e) && isIn(r, n, at) {
			return true
		}
	}
	return false
}

// placesIn are the exps of a kind in exp top.
func placesIn(r impl.Rule, top, kind int) []int {
	return slices.DeleteFunc(places(0, len(r.Exps)), func(n int) bool { return r.Exps[n].Kind != kind || !isIn(r, n, top) })
}

func once(names []string) []string {
	var list []string
	for _, name := range names {
		if !slices.Contains(list, name) {
			list = append(list, name)
		}
	}
	return list
}

func textsAt(r impl.Rule, list []int) []string {
	var texts []string
	for _, n := range list {
		texts = append(texts, r.Exps[n].Text)
	}
	return texts
}

// wantedVars are the ExpVars of a place of a rule that has the form.
func wantedVars(r impl.Rule, n int) []string { return once(textsAt(r, placesIn(r, n, impl.ExVar))) }

func namesOf(r impl.Rule) []string {
	var names []string
	for _, e := range r.Exps {
		if e.Kind == impl.ExVar {
			names = append(names, e.Text)
		}
	}
	return once(names)
}

func hasAll(set map[string]bool, names []string) bool {
	return !slices.ContainsFunc(names, func(name string) bool { return !set[name] })
}

// side is one of an equation, with all that matters of it.
type side struct {
	vars      []string
	any       bool
	isPattern bool
	isName    bool
}

func newSide(r impl.Rule, n int) side {
	sums := slices.Concat(placesIn(r, n, impl.ExAdd), placesIn(r, n, impl.ExSub), placesIn(r, n, impl.ExMul))
	return side{wantedVars(r, n), len(placesIn(r, n, impl.ExAny)) > 0, len(sums) == 0, r.Exps[n].Kind == impl.ExVar}
}

// atomNames are bound by the literals that are LtAtom.
func atomNames(r impl.Rule) []string {
	var names []string
	for _, l := range r.Body {
		for _, a := range l.Args {
			for _, n := range placesIn(r, a, impl.ExVar) {
				if l.Kind == impl.LtAtom && !isInSum(r, n) {
					names = append(names, r.Exps[n].Text)
				}
			}
		}
	}
	return names
}

// equations has each one twice, as either side may be the first.
func equations(r impl.Rule) [][2]side {
	var list [][2]side
	for _, l := range r.Body {
		if l.Kind == impl.LtCmp && l.Name == "=" {
			a, b := newSide(r, l.Args[0]), newSide(r, l.Args[1])
			list = append(list, [2]side{a, b}, [2]side{b, a})
		}
	}
	return list
}

func isClosed(set map[string]bool, atoms []string, list [][2]side, binds func(side) bool) bool {
	for _, pair := range list {
		if binds(pair[0]) && hasAll(set, pair[0].vars) && pair[1].isPattern && !hasAll(set, pair[1].vars) {
			return false
		}
	}
	return hasAll(set, atoms)
}

func wantedBound(r impl.Rule) []string {
	return leastNames(r, func(s side) bool { return !s.any })
}

// leastNames is what all sets of names have that have those of the LtAtom, and by
// each equation the names of one side, where the other one binds them; there is
// none to reckon up step by step. It wants a rule that has the form.
func leastNames(r impl.Rule, binds func(side) bool) []string {
	names, atoms, list := namesOf(r), atomNames(r), equations(r)
	least := 1<<len(names) - 1
	for bits := range 1 << len(names) {
		set := map[string]bool{}
		for i, name := range names {
			set[name] = bits>>i&1 == 1
		}
		if isClosed(set, atoms, list, binds) {
			least &= bits
		}
	}
	var bound []string
	for i, name := range names {
		if least>>i&1 == 1 {
			bound = append(bound, name)
		}
	}
	return bound
}

// isStray tells whether an ExAny stands where none may.
func isStray(r impl.Rule, n int) bool {
	for _, l := range r.Body {
		for _, a := range l.Args {
			if l.Kind != impl.LtCmp && isIn(r, n, a) {
				return isInSum(r, n)
			}
		}
	}
	return true
}

func wantedGround(p impl.Prog) (int, int) {
	if _, code := wantedTypes(p); code != impl.TyOK {
		return -1, impl.GrTypes
	}
	for i, r := range p.Rules {
		for n, e := range r.Exps {
			if e.Kind == impl.ExAny && isStray(r, n) {
				return i, impl.GrAny
			}
		}
		if !slices.Equal(wantedBound(r), namesOf(r)) {
			return i, impl.GrVar
		}
	}
	return -1, impl.GrOK
}

// wantedValue is the value of exp n; or where and how the first fault comes up of
// all that have values within them.
func wantedValue(r impl.Rule, n int, vals map[string]string) (value string, at, code int) {
	e := r.Exps[n]
	var kids []string
	for _, k := range e.Kids {
		kid, kidAt, kidCode := wantedValue(r, k, vals)
		kids = append(kids, kid)
		if kidCode != 0 && (code == 0 || kidAt < at) {
			at, code = kidAt, kidCode
		}
	}
	if code != 0 {
		return "", at, code
	}
	value, ok := e.Text, true
	switch e.Kind {
	case impl.ExVar:
		value, ok = vals[e.Text]
	case impl.ExAny:
		ok = false
	case impl.ExCon:
		value, _ = impl.TermMake(e.Text, kids)
	case impl.ExAdd, impl.ExSub, impl.ExMul:
		a, okA := impl.TermNum(kids[0])
		b, okB := impl.TermNum(kids[1])
		ok = okA && okB
		value = impl.NumTerm(map[int]int{impl.ExAdd: a + b, impl.ExSub: a - b, impl.ExMul: a * b}[e.Kind])
	}
	switch {
	case !ok:
		return "", n, 1
	case e.Kind > impl.ExTerm && value == "":
		return "", n, 2
	}
	return value, n, 0
}

// wantedAnswer is that of ExpValue, of any rule and place.
func wantedAnswer(r impl.Rule, n int, names, vals []string) (string, int) {
	if impl.RuleText(r) == "" || n < 0 || n >= len(r.Exps) {
		return "", 1
	}
	byName := map[string]string{}
	for i := min(len(names), len(vals)) - 1; i >= 0; i-- {
		byName[names[i]] = vals[i]
	}
	value, _, code := wantedValue(r, n, byName)
	switch {
	case code != 0:
		return "", code
	case impl.TermKind(value) == impl.TkNone:
		return "", 2
	}
	return value, 0
}

// checkRule holds ExpVars, Bound and ExpValue of a rule, at each place and beside,
// against what is wanted; and counts the codes of the values.
func checkRule(t *testing.T, w *writer, r impl.Rule, codes map[int]int) {
	t.Helper()
	formed := impl.RuleText(r) != ""
	if formed {
		wantBound(t, r, wantedBound(r)...)
	} else {
		wantBound(t, r)
	}
	for n := -2; n < len(r.Exps)+2; n++ {
		var vars []string
		if formed && n >= 0 && n < len(r.Exps) {
			vars = wantedVars(r, n)
		}
		wantExpVars(t, r, n, vars...)
		names, vals := someValues(w, r)
		value, code := wantedAnswer(r, n, names, vals)
		wantAnswer(t, r, n, names, vals, value, code)
		codes[code]++
	}
}

// someValues are values for the names of a rule, in any order, some of which lack,
// stand twice, or are no terms.
func someValues(w *writer, r impl.Rule) ([]string, []string) {
	var names, vals []string
	for _, e := range r.Exps {
		if e.Kind == impl.ExVar && w.IntN(8) > 0 {
			names = append(names, e.Text)
		}
	}
	w.Shuffle(len(names), func(i, j int) { names[i], names[j] = names[j], names[i] })
	for range len(names) + w.IntN(9)/4 - w.IntN(9)/8 {
		val := pick(w, "1", "2", "-3", "7")
		if w.IntN(4) == 0 {
			val = pick(w, "1000000", "-999999", "1001", `"a"`, "Nil", "S(1)", longTerm(impl.MaxTerm), longTerm(impl.MaxTerm-3), "", "x", "01", "1000001")
		}
		vals = append(vals, val)
	}
	return names, vals
}

// mostNames is how many a rule may have of which all sets are looked at.
const mostNames = 9

func TestRulesThatAreMadeUp(t *testing.T) {
	w := &writer{Rand: rand.New(rand.NewPCG(59, 61))}
	codes := map[int]int{}
	look := func(p impl.Prog) {
		for _, r := range p.Rules {
			if len(namesOf(r)) <= mostNames {
				checkRule(t, w, r, codes)
			}
		}
	}
	eachMadeUp(1200, func(_ string, _ []impl.Tok, p impl.Prog) {
		look(p)
		look(changed(w, p))
	})
	eachTyped(800, 0, func(p impl.Prog) {
		look(p)
		look(changed(w, p))
	})
	if min(codes[0], codes[1], codes[2]) < 500 {
		t.Errorf("the codes of the values are %v", codes)
	}
}

// reordered has the exps of a rule in another order, in which Kids are ahead of
// their exps still; so its text is as it was.
func reordered(w *writer, r impl.Rule) impl.Rule {
	q := copied(rules(r)).Rules[0]
	place := map[int]int{}
	q.Exps = nil
	for len(q.Exps) < len(r.Exps) {
		n := w.IntN(len(r.Exps))
		_, there := place[n]
		ready := !slices.ContainsFunc(r.Exps[n].Kids, func(k int) bool { _, there := place[k]; return !there })
		if !there && ready {
			place[n] = len(q.Exps)
			q.Exps = append(q.Exps, impl.Exp{Kind: r.Exps[n].Kind, Text: r.Exps[n].Text, Kids: slices.Clone(r.Exps[n].Kids)})
		}
	}
	for i := range q.Exps {
		moved(q.Exps[i].Kids, place)
	}
	moved(q.Head.Args, place)
	for i := range q.Body {
		moved(q.Body[i].Args, place)
	}
	return q
}

func moved(list []int, place map[int]int) {
	for i, n := range list {
		list[i] = place[n]
	}
}

func TestRulesWhoseExpsStandInAnotherOrder(t *testing.T) {
	w := &writer{Rand: rand.New(rand.NewPCG(67, 71))}
	codes := map[int]int{}
	eachTyped(600, 0, func(p impl.Prog) {
		for _, r := range p.Rules {
			if len(namesOf(r)) > mostNames {
				continue
			}
			q := reordered(w, r)
			wantRuleText(t, q, impl.RuleText(r))
			checkRule(t, w, q, codes)
			if !slices.Equal(slices.Sorted(slices.Values(impl.Bound(q))), slices.Sorted(slices.Values(impl.Bound(r)))) {
				t.Errorf("Bound of %s in another order is %q, not %q", impl.RuleText(r), impl.Bound(q), impl.Bound(r))
			}
		}
	})
	if min(codes[0], codes[1], codes[2]) < 100 {
		t.Errorf("the codes of the values are %v", codes)
	}
}

// TestGroundOfMadeUpPrograms has all codes often, and TyOK wherever there is GrOK.
func TestGroundOfMadeUpPrograms(t *testing.T) {
	w := &writer{Rand: rand.New(rand.NewPCG(73, 79))}
	codes := map[int]int{}
	look := func(p impl.Prog) {
		if slices.ContainsFunc(p.Rules, func(r impl.Rule) bool { return len(namesOf(r)) > mostNames }) {
			return
		}
		rule, code := wantedGround(p)
		wantGround(t, p, rule, code)
		codes[code]++
		if _, typed := impl.CheckTypes(p); code == impl.GrOK && typed != impl.TyOK {
			t.Errorf("%s is grounded and not typed", impl.ProgText(p))
		}
	}
	eachTyped(2500, 0, func(p impl.Prog) {
		look(p)
		look(changed(w, p))
		look(withoutAny(p))
	})
	eachTyped(300, 3, look)
	eachMadeUp(300, func(_ string, _ []impl.Tok, p impl.Prog) { look(p) })
	for code := range impl.GrVar + 1 {
		if codes[code] < 50 {
			t.Errorf("%d programs have the code %d", codes[code], code)
		}
	}
}

// withoutAny has a name that is bound, or a new one, for most ExAny.
func withoutAny(p impl.Prog) impl.Prog {
	q := copied(p)
	for _, r := range q.Rules {
		bound := impl.Bound(r)
		for i := range r.Exps {
			if r.Exps[i].Kind == impl.ExAny && len(bound) > 0 && i%5 > 0 {
				r.Exps[i] = variable(bound[i%len(bound)])
			}
		}
	}
	return q
}

// turnEquations changes the sides of each one in a body.
func turnEquations(body []string) {
	for i, lit := range body {
		if left, right, isEquation := strings.Cut(lit, " = "); isEquation {
			body[i] = right + " = " + left
		}
	}
}

// TestBodiesInAnyOrder: neither the order of literals nor that of the sides of an
// equation matters to what is bound and grounded.
func TestBodiesInAnyOrder(t *testing.T) {
	lits := []string{"num(x)", "x = y", "z = y + 1", "y = z - x", "num(z + 1)", "Cons(x, l) = k", "list(k)", "k = Cons(y, _)", "!edge(x, z)", "l = Nil", "w < x", "w = 2 * z", "list(Cons(w, l))"}
	w := &writer{Rand: rand.New(rand.NewPCG(83, 89))}
	for range 1500 {
		w.Shuffle(len(lits), func(i, j int) { lits[i], lits[j] = lits[j], lits[i] })
		body := slices.Clone(lits[:1+w.IntN(6)])
		first := parsed(t, declarations+"none() :- "+strings.Join(body, ", ")+".")
		names := slices.Sorted(slices.Values(impl.Bound(first.Rules[0])))
		_, code := impl.CheckGround(first)
		for range 4 {
			w.Shuffle(len(body), func(i, j int) { body[i], body[j] = body[j], body[i] })
			turnEquations(body)
			p := parsed(t, declarations+"none() :- "+strings.Join(body, ", ")+".")
			if got := slices.Sorted(slices.Values(impl.Bound(p.Rules[0]))); !slices.Equal(got, names) {
				t.Fatalf("Bound of %v is %q, not %q", body, got, names)
			}
			if _, got := impl.CheckGround(p); got != code {
				t.Fatalf("CheckGround of %v has %d, not %d", body, got, code)
			}
		}
	}
}

// TestValuesInARuleThatIsGrounded gives each name a value of its type: no exp but
// an ExAny, and what one is in, lacks a value then, and each has its type.
func TestValuesInARuleThatIsGrounded(t *testing.T) {
	w := &writer{Rand: rand.New(rand.NewPCG(97, 101))}
	made := 0
	look := func(p impl.Prog) {
		if _, code := impl.CheckGround(p); code != impl.GrOK {
			return
		}
		for n, r := range p.Rules {
			var names, vals []string
			for _, v := range impl.VarTypes(p, n) {
				names, vals = append(names, v.Name), append(vals, someTerm(w, v.Type, 2))
			}
			if !slices.Equal(names, impl.Bound(r)) {
				t.Errorf("Bound(%s) = %q, want %q", impl.RuleText(r), impl.Bound(r), names)
			}
			for _, l := range append([]impl.Lit{r.Head}, r.Body...) {
				decl, isRel := relNamed(p, l.Name)
				for i, a := range l.Args {
					value, code := impl.ExpValue(r, a, names, vals)
					if lacks := len(placesIn(r, a, impl.ExAny)) > 0; lacks != (code == 1) {
						t.Errorf("ExpValue(%s, %d, %q, %q) = %q, %d", impl.RuleText(r), a, names, vals, value, code)
					}
					if code == 0 && isRel {
						wantHas(t, p, value, decl.Types[i], true)
						made++
					}
				}
			}
		}
	}
	eachTyped(2500, 0, func(p impl.Prog) {
		look(p)
		look(withoutAny(p))
	})
	if made < 500 {
		t.Errorf("just %d values were made", made)
	}
}

func TestGroundedLeavesItsArgumentsAsTheyWere(t *testing.T) {
	w := &writer{Rand: rand.New(rand.NewPCG(103, 107))}
	eachTyped(300, 1, func(p impl.Prog) {
		q := withRoom(p)
		before := unrolled(q)
		rule, code := impl.CheckGround(q)
		wantGround(t, p, rule, code)
		for i, r := range q.Rules {
			wantBound(t, p.Rules[i], impl.Bound(r)...)
			for n := -1; n <= len(r.Exps); n++ {
				wantExpVars(t, p.Rules[i], n, impl.ExpVars(r, n)...)
				names, vals := someValues(w, r)
				roomyNames, roomyVals := roomy(names, "a"), roomy(vals, "1")
				value, code := impl.ExpValue(r, n, roomyNames, roomyVals)
				wantAnswer(t, p.Rules[i], n, names, vals, value, code)
				if !slices.Equal(roomyNames[:len(names)+1], append(names, "a")) || !slices.Equal(roomyVals[:len(vals)+1], append(vals, "1")) {
					t.Fatalf("names or values were written into: %q, %q", roomyNames, roomyVals)
				}
			}
		}
		if !reflect.DeepEqual(before, unrolled(q)) {
			t.Fatalf("an argument was written into: %v", q)
		}
	})
}

// TestWhatLiesBehindNamesAndValuesIsNotRead has the value of a name there.
func TestWhatLiesBehindNamesAndValuesIsNotRead(t *testing.T) {
	r := ruleOf(t, "p(x).")
	wantAnswer(t, r, 0, []string{"y", "x"}[:1], []string{"1", "2"}, "", 1)
	wantAnswer(t, r, 0, []string{"y", "x"}, []string{"1", "2"}[:1], "", 1)
	wantAnswer(t, r, 0, []string{"x", "x"}[:1], []string{"1", "2"}[:1], "1", 0)
}

// TestEachAnswerOfNamesIsNew writes into one answer and asks again; and asks often,
// as no order of a set may show.
func TestEachAnswerOfNamesIsNew(t *testing.T) {
	r := ruleOf(t, "p(e, d, c) :- q(P(a, b, c), d), f = a + b, e = P(f, g), g = 1.")
	vars := r.Body[0].Args[0]
	for range 200 {
		wantBound(t, r, "e", "d", "c", "a", "b", "f", "g")
		wantExpVars(t, r, vars, "a", "b", "c")
		for _, list := range [][]string{impl.Bound(r), impl.ExpVars(r, vars)} {
			for i := range list[:cap(list)] {
				list[:cap(list)][i] = "other"
			}
		}
	}
}
