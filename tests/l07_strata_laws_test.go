package tests

import (
	"math/rand/v2"
	"reflect"
	"slices"
	"strconv"
	"strings"
	"testing"

	"loop.example/g00531/impl"
)

// wantedDeps are those of a program that is grounded: a Dep stays out where the
// same one stands ahead of it.
func wantedDeps(p impl.Prog) []impl.Dep {
	var all, list []impl.Dep
	for _, r := range p.Rules {
		for _, l := range r.Body {
			if l.Kind != impl.LtCmp {
				all = append(all, impl.Dep{From: placeOf(p, r.Head.Name), To: placeOf(p, l.Name), Neg: l.Kind == impl.LtNot})
			}
		}
	}
	for i, dep := range all {
		if slices.Index(all, dep) == i {
			list = append(list, dep)
		}
	}
	return list
}

// leads has, for each two relations, whether the first one leads to the second one
// along one or more Deps.
func leads(deps []impl.Dep, count int) [][]bool {
	way := make([][]bool, count)
	for a := range way {
		way[a] = make([]bool, count)
	}
	for _, d := range deps {
		way[d.From][d.To] = true
	}
	for over := range count {
		for a := range count {
			for b := range count {
				way[a][b] = way[a][b] || way[a][over] && way[over][b]
			}
		}
	}
	return way
}

// isInRing tells whether a Dep that is Neg leads to where it comes from.
func isInRing(deps []impl.Dep, way [][]bool) bool {
	return slices.ContainsFunc(deps, func(d impl.Dep) bool { return d.Neg && (d.From == d.To || way[d.To][d.From]) })
}

// areStrata tells whether numbers are as the chapter says, if not the least ones.
func areStrata(deps []impl.Dep, strata []int) bool {
	return !slices.ContainsFunc(deps, func(d impl.Dep) bool {
		return strata[d.From] < strata[d.To] || d.Neg && strata[d.From] == strata[d.To]
	})
}

// wantedStrata goes down from numbers that are great enough: as long as one of them
// may be less by one, with all that must be less with it, it is. It wants Deps that
// are in no ring with Neg.
func wantedStrata(deps []impl.Dep, way [][]bool) []int {
	strata := make([]int, len(way))
	for a := range strata {
		// The most Neg on a way from here are no more than the relations it leads to.
		for b := range strata {
			if way[a][b] && !way[b][a] {
				strata[a]++
			}
		}
	}
	for lessened := true; lessened; {
		lessened = false
		for a := range strata {
			less := slices.Clone(strata)
			for b := range less {
				if b == a || way[a][b] && way[b][a] {
					less[b]--
				}
			}
			if less[a] >= 0 && areStrata(deps, less) {
				strata, lessened = less, true
			}
		}
	}
	return strata
}

// checkStrata holds the four functions against what is wanted of a program, and
// answers what it is: not grounded, in a ring, or how many strata it has.
func checkStrata(t *testing.T, p impl.Prog) string {
	t.Helper()
	if _, code := impl.CheckGround(p); code != impl.GrOK {
		wantNothing(t, impl.ProgText(p), p)
		return "not grounded"
	}
	deps := wantedDeps(p)
	way := leads(deps, len(p.Rels))
	wantDepList(t, p, deps)
	for a := range p.Rels {
		b := (a*7 + len(deps)) % len(p.Rels)
		wantTogether(t, p, a, b, a == b || way[a][b] && way[b][a])
	}
	if isInRing(deps, way) {
		wantRing(t, p)
		return "ring"
	}
	want := wantedStrata(deps, way)
	wantStrata(t, p, want...)
	if len(want) == 0 {
		return "no relation"
	}
	return strconv.Itoa(slices.Max(want) + 1)
}

// wantEach wants each of these to have been met often.
func wantEach(t *testing.T, met map[string]int, least int, kinds ...string) {
	t.Helper()
	for _, kind := range kinds {
		if met[kind] < least {
			t.Errorf("%q was met %d times, of %v", kind, met[kind], met)
		}
	}
}

// relDecls are relations without places.
func relDecls(count int) []impl.RelDecl {
	var list []impl.RelDecl
	for i := range count {
		list = append(list, impl.RelDecl{Name: allLetters()[i : i+1]})
	}
	return list
}

// withDeps is a program that has these Deps, each by a rule.
func withDeps(count int, deps []impl.Dep) impl.Prog {
	p := impl.Prog{Rels: relDecls(count)}
	for _, d := range deps {
		lit := atom(p.Rels[d.To].Name)
		if d.Neg {
			lit = not(p.Rels[d.To].Name)
		}
		p.Rules = append(p.Rules, rule(nil, atom(p.Rels[d.From].Name), lit))
	}
	return p
}

// eachGraph calls with all Deps that there may be between relations: for each two
// of them none, one without Neg, or one with it.
func eachGraph(count int, call func(deps []impl.Dep)) {
	all := 1
	for range count * count {
		all *= 3
	}
	for n := range all {
		var deps []impl.Dep
		for pair := range count * count {
			if n%3 > 0 {
				deps = append(deps, impl.Dep{From: pair / count, To: pair % count, Neg: n%3 == 2})
			}
			n /= 3
		}
		call(deps)
	}
}

// leastByAll looks at all numbers that relations may have, and takes for each one
// the least that it has in any that are as the chapter says.
func leastByAll(deps []impl.Dep, count int) ([]int, bool) {
	var least []int
	all := 1
	for range count {
		all *= count
	}
	for n := range all {
		strata := make([]int, count)
		for a := range strata {
			strata[a] = n % count
			n /= count
		}
		if !areStrata(deps, strata) {
			continue
		}
		if least == nil {
			least = strata
		}
		for a := range strata {
			least[a] = min(least[a], strata[a])
		}
	}
	return least, least != nil
}

func TestStrataOfAllGraphsOfThreeRelations(t *testing.T) {
	met := map[string]int{}
	for count := 1; count <= 3; count++ {
		eachGraph(count, func(deps []impl.Dep) {
			p := withDeps(count, deps)
			want, ok := leastByAll(deps, count)
			got, gotOk := impl.Strata(p)
			if gotOk != ok || !slices.Equal(got, want) {
				t.Errorf("Strata(%s) = %v, %v, want %v, %v", impl.ProgText(p), got, gotOk, want, ok)
			}
			met[strconv.FormatBool(ok)]++
		})
	}
	wantEach(t, met, 1000, "true", "false")
}

func TestTogetherOfAllGraphsOfThreeRelations(t *testing.T) {
	n := 0
	eachGraph(3, func(deps []impl.Dep) {
		n++
		p, way := withDeps(3, deps), leads(deps, 3)
		a, b := n%3, n/3%3
		if want := a == b || way[a][b] && way[b][a]; impl.Together(p, a, b) != want {
			t.Errorf("Together(%s, %d, %d) is not %v", impl.ProgText(p), a, b, want)
		}
	})
}

// TestStrataOfFourAndFiveRelations has some of the graphs, told by all numbers.
func TestStrataOfFourAndFiveRelations(t *testing.T) {
	w := &writer{Rand: rand.New(rand.NewPCG(109, 113))}
	met := map[string]int{}
	for range 1200 {
		count := 4 + w.IntN(2)
		var deps []impl.Dep
		for range w.IntN(9) {
			if d := (impl.Dep{From: w.IntN(count), To: w.IntN(count), Neg: w.IntN(3) == 0}); !slices.Contains(deps, d) {
				deps = append(deps, d)
			}
		}
		p := withDeps(count, deps)
		want, ok := leastByAll(deps, count)
		if got, gotOk := impl.Strata(p); gotOk != ok || !slices.Equal(got, want) {
			t.Errorf("Strata(%s) = %v, %v, want %v, %v", impl.ProgText(p), got, gotOk, want, ok)
		}
		met[strconv.FormatBool(ok)]++
		checkStrata(t, p)
	}
	wantEach(t, met, 100, "true", "false")
}

// graphWriter makes up programs of relations of numbers, all of whose rules are
// grounded.
type graphWriter struct {
	*writer
	arities []int
	falling bool // most rules ask for relations behind their head's
	nots    int  // how many of a hundred literals are LtNot
}

func (w *graphWriter) relation(n int, args ...string) string {
	var list []string
	for range w.arities[n] {
		list = append(list, pick(w.writer, args...))
	}
	return string(allLetters()[n]) + "(" + strings.Join(list, ", ") + ")"
}

func (w *graphWriter) literal(head int) string {
	to := w.IntN(len(w.arities))
	if w.falling && to <= head && w.IntN(60) > 0 {
		return pick(w.writer, "x < 7", "x != 2", "1 <= 1")
	}
	if w.IntN(100) < w.nots {
		return "!" + w.relation(to, "x", "1", "_", "x + 1")
	}
	return w.relation(to, "x", "y", "1", "_", "2 * x")
}

func (w *graphWriter) rule() string {
	head := w.IntN(len(w.arities))
	if w.IntN(8) == 0 {
		return w.relation(head, "1", "2 + 3") + ".\n"
	}
	text := w.relation(head, "x", "3", "x - 1") + " :- x = 1"
	for range w.IntN(5) {
		text += ", " + w.literal(head)
	}
	return text + ".\n"
}

func (w *graphWriter) program() string {
	s := ""
	w.arities = nil
	for n := range 1 + w.IntN(impl.MaxRels) {
		w.arities = append(w.arities, w.IntN(3))
		s += "rel " + w.relation(n, "number") + pick(w.writer, "", " input", " output", " inline") + ".\n"
	}
	for range w.IntN(impl.MaxRules + 1) {
		s += w.rule()
	}
	return s
}

// eachGraphProgram calls with programs that are grounded, always the same ones.
func eachGraphProgram(t *testing.T, n int, call func(p impl.Prog)) {
	t.Helper()
	w := &graphWriter{writer: &writer{Rand: rand.New(rand.NewPCG(127, 131))}}
	for made := 0; made < n; {
		w.falling, w.nots = w.IntN(3) > 0, pick(w.writer, 0, 10, 30, 100)
		p, _, code := impl.Parse(w.program())
		if code != impl.SyOK || impl.ProgText(p) == "" {
			continue // too long
		}
		wantGround(t, p, -1, impl.GrOK)
		call(p)
		made++
	}
}

func TestStrataOfMadeUpPrograms(t *testing.T) {
	met := map[string]int{}
	eachGraphProgram(t, 400, func(p impl.Prog) { met[checkStrata(t, p)]++ })
	wantEach(t, met, 8, "ring", "1", "2", "3", "4", "5")
	w := &writer{Rand: rand.New(rand.NewPCG(137, 139))}
	look := func(p impl.Prog) { met[checkStrata(t, p)]++ }
	eachTyped(300, 0, func(p impl.Prog) {
		look(p)
		look(withoutAny(p))
		look(changed(w, p))
	})
	eachTyped(100, 3, look)
	eachMadeUp(200, func(_ string, _ []impl.Tok, p impl.Prog) { look(p) })
	wantEach(t, met, 50, "not grounded", "ring", "1", "2")
}

// TestWhatIsAskedForNotBeingThereIsInALesserStratum is what promise 7 says, and
// that nothing is asked for that is in a greater one; a program without LtNot has 0
// everywhere.
func TestWhatIsAskedForNotBeingThereIsInALesserStratum(t *testing.T) {
	asked := 0
	eachGraphProgram(t, 900, func(p impl.Prog) {
		strata, ok := impl.Strata(p)
		if !ok {
			return
		}
		nots := 0
		for _, r := range p.Rules {
			head := strata[placeOf(p, r.Head.Name)]
			for _, l := range r.Body {
				switch {
				case l.Kind == impl.LtNot && strata[placeOf(p, l.Name)] >= head, l.Kind == impl.LtAtom && strata[placeOf(p, l.Name)] > head:
					t.Errorf("the strata are %v, with %s", strata, impl.RuleText(r))
				case l.Kind == impl.LtNot:
					nots++
				}
			}
		}
		if nots == 0 && slices.Max(strata) > 0 {
			t.Errorf("Strata(%s) = %v, without LtNot", impl.ProgText(p), strata)
		}
		asked += nots
	})
	if asked < 1000 {
		t.Errorf("just %d relations are asked for not being there", asked)
	}
}

// TestNoStratumCouldBeLess has one number less, of one relation and of all that are
// Together with it; and no number is left out.
func TestNoStratumCouldBeLess(t *testing.T) {
	looked := 0
	eachGraphProgram(t, 150, func(p impl.Prog) {
		strata, ok := impl.Strata(p)
		if !ok {
			return
		}
		deps := impl.Deps(p)
		for a := range strata {
			less := slices.Clone(strata)
			for b := range less {
				if strata[a] > 0 && impl.Together(p, a, b) {
					less[b]--
				}
			}
			if strata[a] > 0 && areStrata(deps, less) {
				t.Errorf("Strata(%s) = %v, and could be %v", impl.ProgText(p), strata, less)
			}
			if strata[a] > 0 && !slices.Contains(strata, strata[a]-1) {
				t.Errorf("Strata(%s) = %v, without %d", impl.ProgText(p), strata, strata[a]-1)
			}
			looked++
		}
	})
	if looked < 500 {
		t.Errorf("just %d numbers were looked at", looked)
	}
}

// TestTogetherGoesTogether: relations that are Together are so in both directions,
// with all that either is Together with, and have one stratum.
func TestTogetherGoesTogether(t *testing.T) {
	pairs := 0
	eachGraphProgram(t, 200, func(p impl.Prog) {
		strata, ok := impl.Strata(p)
		count := min(len(p.Rels), 6)
		var together [6][6]bool
		for n := range count * count {
			together[n/count][n%count] = impl.Together(p, n/count, n%count)
		}
		for n := range count * count {
			a, b := n/count, n%count
			if a == b || !together[a][b] {
				continue
			}
			pairs++
			if !together[b][a] || together[a] != together[b] {
				t.Errorf("%d and %d of %s: %v", a, b, impl.ProgText(p), together)
			}
			if ok && strata[a] != strata[b] {
				t.Errorf("%d and %d are Together, and have the strata %v, in %s", a, b, strata, impl.ProgText(p))
			}
		}
	})
	if pairs < 300 {
		t.Errorf("just %d pairs are Together", pairs)
	}
}

// TestWhatIsReadyIsGrounded is of promise 6; Strata is true of it then.
func TestWhatIsReadyIsGrounded(t *testing.T) {
	met := map[string]int{}
	look := func(p impl.Prog) {
		_, code := impl.CheckGround(p)
		_, ok := impl.Strata(p)
		ready := impl.Ready(p)
		switch {
		case ready != (code == impl.GrOK && ok), ready && code != impl.GrOK, ready && !ok:
			t.Errorf("Ready(%s) is %v, with %d and %v", impl.ProgText(p), ready, code, ok)
		case ready:
			met["ready"]++
		case code == impl.GrOK:
			met["grounded"]++
		default:
			met["other"]++
		}
		if _, typed := impl.CheckTypes(p); ready && typed != impl.TyOK {
			t.Errorf("%s is Ready and not typed", impl.ProgText(p))
		}
	}
	w := &writer{Rand: rand.New(rand.NewPCG(149, 151))}
	eachGraphProgram(t, 300, func(p impl.Prog) {
		look(p)
		look(changed(w, p))
	})
	eachTyped(300, 1, look)
	eachMadeUp(200, func(_ string, _ []impl.Tok, p impl.Prog) { look(p) })
	wantEach(t, met, 50, "ready", "grounded", "other")
}

// TestTheOrderOfRulesDoesNotMatterToStrata: nor does that of literals, nor do facts
// and rules that stand twice.
func TestTheOrderOfRulesDoesNotMatterToStrata(t *testing.T) {
	w := &writer{Rand: rand.New(rand.NewPCG(157, 163))}
	inOrder := func(list []impl.Dep) []impl.Dep {
		return slices.SortedFunc(slices.Values(list), func(a, b impl.Dep) int {
			return slices.Compare([]int{a.From, a.To, len(strconv.FormatBool(a.Neg))}, []int{b.From, b.To, len(strconv.FormatBool(b.Neg))})
		})
	}
	eachGraphProgram(t, 200, func(p impl.Prog) {
		s := "" // read again, as the order of Exps follows that of the literals
		w.Shuffle(len(p.Rules), func(i, j int) { p.Rules[i], p.Rules[j] = p.Rules[j], p.Rules[i] })
		for _, r := range p.Rules {
			body := slices.Clone(r.Body)
			slices.Reverse(body)
			s += impl.RuleText(impl.Rule{Exps: r.Exps, Head: r.Head, Body: body}) + "\n"
		}
		q := parsed(t, impl.ProgText(impl.Prog{Rels: p.Rels})+s)
		if len(q.Rules) > 0 && len(q.Rules) < impl.MaxRules && len(s) < impl.MaxSource/2 {
			q.Rules = append(q.Rules, q.Rules[0])
		}
		want, ok := impl.Strata(p)
		if got, gotOk := impl.Strata(q); gotOk != ok || !slices.Equal(got, want) || impl.Ready(q) != ok {
			t.Errorf("Strata(%s) = %v, %v, and %v, %v of %s", impl.ProgText(p), want, ok, got, gotOk, impl.ProgText(q))
		}
		if !slices.Equal(inOrder(impl.Deps(p)), inOrder(impl.Deps(q))) {
			t.Errorf("Deps(%s) = %v, and %v of %s", impl.ProgText(p), impl.Deps(p), impl.Deps(q), impl.ProgText(q))
		}
	})
}

func TestStrataLeaveTheirArgumentAsItWas(t *testing.T) {
	look := func(p impl.Prog) {
		q := withRoom(p)
		before := unrolled(q)
		wantDepList(t, p, impl.Deps(q))
		got, ok := impl.Strata(q)
		if want, wantOk := impl.Strata(p); ok != wantOk || !slices.Equal(got, want) || impl.Ready(q) != ok {
			t.Errorf("Strata(%s) = %v, %v with room, %v, %v without", impl.ProgText(p), got, ok, want, wantOk)
		}
		for a := -1; a <= len(q.Rels); a++ {
			if b := a / 2; impl.Together(q, a, b) != impl.Together(p, a, b) {
				t.Errorf("Together(%s, %d, %d) is another one with room", impl.ProgText(p), a, b)
			}
		}
		if !reflect.DeepEqual(before, unrolled(q)) {
			t.Fatalf("an argument was written into: %v", q)
		}
	}
	eachGraphProgram(t, 100, look)
	eachTyped(150, 1, look)
}

// TestEachAnswerOfStrataIsNew writes into one answer and asks again; and asks often,
// as no order of a map may show.
func TestEachAnswerOfStrataIsNew(t *testing.T) {
	p := lettered(t, "abcdef", "d!fe eb!c f!b!e ca b!a ee")
	for range 200 {
		wantDeps(t, p, "d!f de eb e!c f!b f!e ca b!a ee")
		wantStrata(t, p, 0, 1, 0, 3, 1, 2)
		deps := impl.Deps(p)
		for i := range deps[:cap(deps)] {
			deps[:cap(deps)][i] = impl.Dep{From: 5, To: 5, Neg: true}
		}
		strata, _ := impl.Strata(p)
		for i := range strata[:cap(strata)] {
			strata[:cap(strata)][i] = 77
		}
	}
}
