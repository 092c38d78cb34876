package tests

import (
	"fmt"
	"math/rand/v2"
	"reflect"
	"slices"
	"strings"
	"testing"

	"loop.example/g00531/impl"
)

func wantedOld(r impl.Rule) []string {
	return leastNames(r, func(s side) bool { return s.isName })
}

// hasIn tells whether an exp of one of these kinds is in exp top.
func hasIn(r impl.Rule, top int, kinds ...int) bool {
	return slices.ContainsFunc(kinds, func(kind int) bool { return len(placesIn(r, top, kind)) > 0 })
}

func hasSum(r impl.Rule, top int) bool { return hasIn(r, top, impl.ExAdd, impl.ExSub, impl.ExMul) }

func wantedGrows(r impl.Rule) bool {
	old := wantedOld(r)
	for _, name := range wantedBound(r) {
		if !slices.Contains(old, name) {
			return true
		}
	}
	return slices.ContainsFunc(r.Head.Args, func(a int) bool {
		return hasSum(r, a) || slices.ContainsFunc(placesIn(r, a, impl.ExCon), func(n int) bool { return hasIn(r, n, impl.ExVar) })
	})
}

// checkGrowth holds Old and Grows of a rule against what is wanted, and answers
// what it is.
func checkGrowth(t *testing.T, r impl.Rule) string {
	t.Helper()
	if impl.RuleText(r) == "" {
		wantOld(t, r)
		wantGrows(t, r, false)
		return "no form"
	}
	old, grows := wantedOld(r), wantedGrows(r)
	wantOld(t, r, old...)
	wantGrows(t, r, grows)
	return fmt.Sprintf("%v, %v", len(old) < len(impl.Bound(r)), grows)
}

func TestGrowthOfMadeUpRules(t *testing.T) {
	w := &writer{Rand: rand.New(rand.NewPCG(149, 151))}
	met := map[string]int{}
	look := func(p impl.Prog) {
		for _, r := range p.Rules {
			if len(namesOf(r)) <= mostNames {
				met[checkGrowth(t, r)]++
			}
		}
	}
	eachMadeUp(500, func(_ string, _ []impl.Tok, p impl.Prog) {
		look(p)
		look(changed(w, p))
	})
	eachTyped(800, 0, func(p impl.Prog) {
		look(p)
		look(changed(w, p))
		for _, r := range p.Rules {
			if len(namesOf(r)) <= mostNames {
				met[checkGrowth(t, reordered(w, r))]++
			}
		}
	})
	eachRing(400, look)
	wantEach(t, met, 100, "no form", "false, false", "false, true", "true, true")
}

// TestGrowthInAnyOrder: neither the order of literals nor that of the sides of an
// equation matters.
func TestGrowthInAnyOrder(t *testing.T) {
	lits := []string{"q(x)", "x = y", "z = S(y)", "y = P(z, x)", "y = z", "!q(w)", "P(_, v) = x", "v = 1", "q(S(v))", "x = u + 1", "S(y) = u", "u = w", "q(w + 1)"}
	w := &writer{Rand: rand.New(rand.NewPCG(157, 163))}
	met := map[string]int{}
	for range 1000 {
		w.Shuffle(len(lits), func(i, j int) { lits[i], lits[j] = lits[j], lits[i] })
		body := slices.Clone(lits[:1+w.IntN(6)])
		first := ruleOf(t, "p() :- "+strings.Join(body, ", ")+".")
		names := slices.Sorted(slices.Values(impl.Old(first)))
		met[checkGrowth(t, first)]++
		for range 3 {
			w.Shuffle(len(body), func(i, j int) { body[i], body[j] = body[j], body[i] })
			turnEquations(body)
			r := ruleOf(t, "p() :- "+strings.Join(body, ", ")+".")
			if got := slices.Sorted(slices.Values(impl.Old(r))); !slices.Equal(got, names) || impl.Grows(r) != impl.Grows(first) {
				t.Fatalf("Old of %v is %q, not %q, or Grows is another", body, got, names)
			}
		}
	}
	wantEach(t, met, 100, "false, false", "true, true")
}

// ringWriter makes rules up behind the declarations of relations; all names in
// them are bound.
type ringWriter struct {
	*writer
	seen []string // texts of the body that the head may have
}

func (w *ringWriter) term(depth int, others ...string) string {
	text := pick(w.writer, append(others, "x", "y", "z", "N")...)
	if depth > 0 {
		text = pick(w.writer, text, "S("+w.term(depth-1, others...)+")", "P("+w.term(depth-1, others...)+", "+w.term(depth-1, others...)+")", "I("+w.number(others...)+", "+w.term(depth-1, others...)+")")
	}
	if !strings.Contains(text, "_") {
		w.seen = append(w.seen, text)
	}
	return text
}

func (w *ringWriter) number(others ...string) string {
	return pick(w.writer, append(others, "n", "m", "n", "1", "n + 1", "n * m")...)
}

func (w *ringWriter) literal(others ...string) string {
	switch w.IntN(9) {
	case 0, 1, 2:
		return "a(" + w.term(2, others...) + ", " + w.term(2, others...) + ")"
	case 3:
		return "b(" + w.term(1, others...) + ", " + w.term(2, others...) + ")"
	case 4, 5:
		return "c(" + w.term(3, others...) + ")"
	case 6:
		return "d()"
	}
	return "e(" + w.number(others...) + ", " + w.term(2, others...) + ")"
}

func (w *ringWriter) rule() string {
	w.seen = nil
	body := []string{"g(x, y, z, _)", "h(n, m)"}
	for range 1 + w.IntN(3) {
		body = append(body, pick(w.writer, "", "", "", "!")+w.literal("_"))
	}
	if w.IntN(4) == 0 {
		body = append(body, "v = "+pick(w.writer, "S(x)", "x", "N", "P(x, z)"))
		w.seen = append(w.seen, "v")
	}
	w.Shuffle(len(body), func(i, j int) { body[i], body[j] = body[j], body[i] })
	seen := w.seen
	for range len(seen) / 4 {
		seen = append(seen, "x", "y")
	}
	head := w.literal(append(seen[:len(seen):len(seen)], "N")...)
	if w.IntN(3) > 0 {
		head = fmt.Sprintf("a(%s, %s)", pick(w.writer, append(seen, "x")...), pick(w.writer, append(seen, "N")...))
	}
	return head + " :- " + strings.Join(body, ", ") + ".\n"
}

// eachRing calls with programs that are grounded, always the same ones, in most of
// which rules ask for their heads' relations.
func eachRing(n int, call func(p impl.Prog)) {
	w := &ringWriter{writer: &writer{Rand: rand.New(rand.NewPCG(167, 173))}}
	for made := 0; made < n; {
		s := relations
		for range 1 + w.IntN(4) {
			s += w.rule()
		}
		p, _, _ := impl.Parse(s)
		if _, code := impl.CheckGround(p); code == impl.GrOK && len(p.Rels) > 0 {
			call(p)
			made++
		}
	}
}

func wantedArcs(r impl.Rule, l impl.Lit) []impl.Arc {
	var list []impl.Arc
	for a, arg := range l.Args {
		for b, made := range r.Head.Args {
			if hasSum(r, made) || hasIn(r, made, impl.ExAny) || !hasIn(r, made, impl.ExVar) {
				continue
			}
			text := plainExp(r, made)
			within := slices.ContainsFunc(places(0, len(r.Exps)), func(n int) bool {
				return n != arg && isIn(r, n, arg) && !isInSum(r, n) && plainExp(r, n) == text
			})
			if within || plainExp(r, arg) == text {
				list = append(list, arc(a, b, within))
			}
		}
	}
	return list
}

// ringLit is a literal that has a graph.
type ringLit struct {
	rule int
	lit  impl.Lit
}

func wantedTogether(p impl.Prog) func(a, b int) bool {
	way := leads(wantedDeps(p), len(p.Rels))
	return func(a, b int) bool { return a == b || way[a][b] && way[b][a] }
}

func ringLits(p impl.Prog) []ringLit {
	var list []ringLit
	together := wantedTogether(p)
	for n, r := range p.Rules {
		for _, l := range r.Body {
			if l.Kind == impl.LtAtom && together(placeOf(p, l.Name), placeOf(p, r.Head.Name)) {
				list = append(list, ringLit{n, l})
			}
		}
	}
	return list
}

// wantedGraphs are those of a program that is grounded.
func wantedGraphs(p impl.Prog) []impl.Graph {
	var list []impl.Graph
	for _, rl := range ringLits(p) {
		r := p.Rules[rl.rule]
		list = append(list, impl.Graph{From: placeOf(p, rl.lit.Name), To: placeOf(p, r.Head.Name), Arcs: wantedArcs(r, rl.lit)})
	}
	return list
}

// wantedCompose is of two graphs that are right, the second one behind the first.
func wantedCompose(g, h impl.Graph) impl.Graph {
	made := impl.Graph{From: g.From, To: h.To}
	for a := range impl.MaxArity {
		for b := range impl.MaxArity {
			there, strict := false, false
			for _, first := range g.Arcs {
				for _, second := range h.Arcs {
					if first.A == a && first.B == second.A && second.B == b {
						there, strict = true, strict || first.Strict || second.Strict
					}
				}
			}
			if there {
				made.Arcs = append(made.Arcs, arc(a, b, strict))
			}
		}
	}
	return made
}

func onceGraphs(list []impl.Graph) []impl.Graph {
	var all []impl.Graph
	seen := map[string]bool{}
	for _, g := range list {
		if key := fmt.Sprint(g); !seen[key] {
			seen[key] = true
			all = append(all, g)
		}
	}
	return all
}

// wantedClosed makes each time's graphs all together ahead of those that go.
func wantedClosed(list []impl.Graph) ([]impl.Graph, bool) {
	all := onceGraphs(list)
	for {
		more := slices.Clone(all)
		for _, g := range all {
			for _, h := range all {
				if g.To == h.From {
					more = append(more, wantedCompose(g, h))
				}
			}
		}
		more = onceGraphs(more)
		if len(more) > impl.MaxGraphs {
			return nil, false
		}
		if len(more) == len(all) {
			return all, true
		}
		all = more
	}
}

// wantedFalls is of a graph that is right.
func wantedFalls(g impl.Graph) bool {
	return g.From != g.To || !sameGraph(wantedCompose(g, g), g) || slices.ContainsFunc(g.Arcs, func(a impl.Arc) bool { return a.Strict && a.A == a.B })
}

// wantedEnds is of a program that is grounded; it tells why as well.
func wantedEnds(p impl.Prog) (bool, string) {
	together := wantedTogether(p)
	list, ok := wantedClosed(wantedGraphs(p))
	why := "nothing grows"
	for _, rl := range ringLits(p) {
		r := p.Rules[rl.rule]
		if !wantedGrows(r) {
			continue
		}
		if !ok {
			return false, "too many"
		}
		why = "it shrinks"
		for _, g := range list {
			if together(g.From, placeOf(p, r.Head.Name)) && !wantedFalls(g) {
				return false, "it grows"
			}
		}
	}
	return true, why
}

func TestGraphsAndEndsOfMadeUpPrograms(t *testing.T) {
	met := map[string]int{}
	look := func(p impl.Prog) {
		if _, code := impl.CheckGround(p); code != impl.GrOK {
			wantNothing(t, impl.ProgText(p), p)
			met["not grounded"]++
			return
		}
		wantGraphList(t, p, wantedGraphs(p))
		ends, why := wantedEnds(p)
		wantEnds(t, p, ends)
		met[why]++
	}
	w := &writer{Rand: rand.New(rand.NewPCG(179, 181))}
	eachRing(900, func(p impl.Prog) {
		look(p)
		if w.IntN(8) == 0 {
			look(changed(w, p))
		}
	})
	eachTyped(300, 0, func(p impl.Prog) { look(withoutAny(p)) })
	eachGraphProgram(t, 40, look)
	wantEach(t, met, 20, "not grounded", "nothing grows", "it shrinks", "it grows")
	wantEach(t, met, 1, "too many")
}

// valueOf makes a term up that has the type.
func valueOf(w *writer, name string, depth int) string {
	switch name {
	case "T":
		if depth == 0 {
			return "N"
		}
		return pick(w, "N", "S("+valueOf(w, name, depth-1)+")", "P("+valueOf(w, name, depth-1)+","+valueOf(w, name, depth-1)+")", "I("+valueOf(w, "number", 0)+","+valueOf(w, name, depth-1)+")")
	}
	return someTerm(w, name, depth)
}

// withAny has a name for each ExAny.
func withAny(r impl.Rule) impl.Rule {
	q := copied(rules(r)).Rules[0]
	for i, e := range q.Exps {
		if e.Kind == impl.ExAny {
			q.Exps[i] = variable("any")
		}
	}
	return q
}

// TestAlongAnArcNothingGrows gives each name a value: what the head has at the end
// of an arc is what the row of the literal has at its beginning, or is Inside it.
func TestAlongAnArcNothingGrows(t *testing.T) {
	w := &writer{Rand: rand.New(rand.NewPCG(191, 193))}
	met := map[string]int{}
	look := func(p impl.Prog) {
		graphs, lits := impl.GraphsOf(p), ringLits(p)
		if len(graphs) != len(lits) {
			return // not grounded
		}
		for i, rl := range lits {
			r := withAny(p.Rules[rl.rule])
			names, vals := []string{"any"}, []string{valueOf(w, "T", 1)}
			for _, v := range impl.VarTypes(p, rl.rule) {
				names, vals = append(names, v.Name), append(vals, valueOf(w, v.Type, 2))
			}
			for _, a := range graphs[i].Arcs {
				before, code := impl.ExpValue(r, rl.lit.Args[a.A], names, vals)
				if code != 0 {
					continue // it is no row: a term would be too long
				}
				after, _ := impl.ExpValue(r, r.Head.Args[a.B], names, vals)
				if a.Strict != impl.Inside(after, before) || a.Strict != (impl.TermSize(after) < impl.TermSize(before)) || !a.Strict && after != before || after == "" {
					t.Errorf("%v of %s leads from %s to %s", a, impl.RuleText(r), before, after)
				}
				met[fmt.Sprint(a.Strict)]++
			}
		}
	}
	eachRing(900, look)
	eachTyped(600, 0, func(p impl.Prog) { look(withoutAny(p)) })
	wantEach(t, met, 100, "true", "false")
}

// smallGraphs are all between two places.
func smallGraphs() []impl.Graph {
	var list []impl.Graph
	for n := range 81 {
		var g impl.Graph
		for pair := range 4 {
			if n%3 > 0 {
				g.Arcs = append(g.Arcs, arc(pair/2, pair%2, n%3 == 2))
			}
			n /= 3
		}
		list = append(list, g)
	}
	return list
}

// TestAllSmallGraphs: they go together as is wanted, along three it is the same
// whichever two come first, and they fall as is wanted.
func TestAllSmallGraphs(t *testing.T) {
	all := smallGraphs()
	then := make([][]int, len(all))
	for i, g := range all {
		wantFalls(t, g, wantedFalls(g))
		for _, h := range all {
			want := wantedCompose(g, h)
			wantCompose(t, g, h, want, true)
			then[i] = append(then[i], slices.IndexFunc(all, func(g impl.Graph) bool { return sameGraph(g, want) }))
		}
	}
	for a := range all {
		for b := range all {
			for c := range all {
				if then[then[a][b]][c] != then[a][then[b][c]] {
					t.Fatalf("along %v, %v, %v it matters which two come first", all[a], all[b], all[c])
				}
			}
		}
	}
}

// someGraph has as many places as are given, and relations below most.
func someGraph(w *writer, count, most int) impl.Graph {
	g := impl.Graph{From: w.IntN(most), To: w.IntN(most)}
	full := 1 + w.IntN(4)
	for a := range count {
		for b := range count {
			if w.IntN(5) < full {
				g.Arcs = append(g.Arcs, arc(a, b, w.IntN(3) == 0))
			}
		}
	}
	return g
}

func TestGraphsGoTogetherWhicheverTwoComeFirst(t *testing.T) {
	w := &writer{Rand: rand.New(rand.NewPCG(197, 199))}
	met := map[string]int{}
	for range 6000 {
		count, most := 1+w.IntN(impl.MaxArity), 1+w.IntN(2)
		g, h, k := someGraph(w, count, most), someGraph(w, count, most), someGraph(w, count, most)
		gh, okGh := impl.Compose(g, h)
		hk, okHk := impl.Compose(h, k)
		if okGh != (g.To == h.From) || okHk != (h.To == k.From) {
			t.Fatalf("Compose of %v, %v, %v is %v, %v", g, h, k, okGh, okHk)
		}
		wantFalls(t, g, wantedFalls(g))
		met[fmt.Sprint(okGh && okHk)]++
		if !okGh || !okHk {
			continue
		}
		wantCompose(t, g, h, wantedCompose(g, h), true)
		first, okFirst := impl.Compose(gh, k)
		second, okSecond := impl.Compose(g, hk)
		if !okFirst || !okSecond || !sameGraph(first, second) {
			t.Errorf("along %v, %v, %v it is %v, or %v", g, h, k, first, second)
		}
	}
	wantEach(t, met, 1000, "true", "false")
}

func TestClosedOfMadeUpLists(t *testing.T) {
	w := &writer{Rand: rand.New(rand.NewPCG(211, 223))}
	met := map[string]int{}
	for range 500 {
		count, most := 1+w.IntN(3), 1+w.IntN(4)
		var list []impl.Graph
		for range w.IntN(9) {
			list = append(list, someGraph(w, count, most))
		}
		if len(list) > 0 && w.IntN(2) == 0 {
			list = append(list, pick(w, list...))
		}
		want, ok := wantedClosed(list)
		if !ok {
			wantNotClosed(t, list)
			met["too many"]++
			continue
		}
		wantClosed(t, list, want)
		met["closed"]++
		if len(want) > 20 {
			met["many"]++
		}
		got, _ := impl.Closed(list)
		for _, g := range got {
			for _, h := range got {
				if made, ok := impl.Compose(g, h); ok && !slices.ContainsFunc(got, func(g impl.Graph) bool { return sameGraph(g, made) }) {
					t.Errorf("%v of Closed(%v) is not in it", made, list)
				}
			}
		}
	}
	wantEach(t, met, 20, "closed", "many", "too many")
}

func TestShrinkLeavesItsProgramAsItWas(t *testing.T) {
	look := func(p impl.Prog) {
		q := withRoom(p)
		before := unrolled(q)
		wantGraphList(t, q, impl.GraphsOf(p))
		if impl.Ends(q) != impl.Ends(p) {
			t.Errorf("Ends of %s with room behind the lists is another", impl.ProgText(p))
		}
		for i, r := range q.Rules {
			wantOld(t, r, impl.Old(p.Rules[i])...)
			wantGrows(t, r, impl.Grows(p.Rules[i]))
		}
		if !reflect.DeepEqual(before, unrolled(q)) {
			t.Fatalf("an argument was written into: %v", q)
		}
	}
	eachRing(150, look)
	eachTyped(150, 1, look)
}

// roomyGraphs have an arc behind those of each, and a graph behind them all.
func roomyGraphs(list []impl.Graph) []impl.Graph {
	all := roomy(list, graph("aa:55!"))
	for i, g := range all {
		all[i].Arcs = roomy(g.Arcs, arc(5, 5, true))
	}
	return all
}

func unrolledGraphs(list []impl.Graph) []impl.Graph {
	all := slices.Clone(list[:cap(list)])
	for i, g := range all {
		all[i].Arcs = slices.Clone(g.Arcs[:cap(g.Arcs)])
	}
	return all
}

func TestShrinkLeavesItsGraphsAsTheyWere(t *testing.T) {
	w := &writer{Rand: rand.New(rand.NewPCG(227, 229))}
	for range 500 {
		count, most := 1+w.IntN(3), 1+w.IntN(2)
		list := []impl.Graph{someGraph(w, count, most), someGraph(w, count, most)}
		q := roomyGraphs(list)
		before := unrolledGraphs(q)
		want, ok := impl.Compose(list[0], list[1])
		wantCompose(t, q[0], q[1], want, ok)
		wantFalls(t, q[0], impl.Falls(list[0]))
		if all, ok := impl.Closed(list); ok {
			wantClosed(t, q, all)
		} else {
			wantNotClosed(t, q)
		}
		if !reflect.DeepEqual(before, unrolledGraphs(q)) {
			t.Fatalf("an argument was written into: %v", q)
		}
	}
}

// spoilGraphs writes into the lists of graphs and into the room behind them, and
// tells whether two of them share it.
func spoilGraphs(list []impl.Graph) bool {
	list = list[:cap(list)]
	var all [][]impl.Arc
	for i := range list {
		all = append(all, list[i].Arcs[:cap(list[i].Arcs)])
	}
	isShared := shared(all, func(list, place int) impl.Arc { return arc(list, place, true) })
	clear(list)
	return isShared
}

// TestEachAnswerOfShrinkIsNew writes into one answer and asks again; and asks often,
// as no order of a map may show.
func TestEachAnswerOfShrinkIsNew(t *testing.T) {
	p := parsed(t, relations+"b(x, y) :- a(x, S(y)), !c(x). a(y, x) :- b(x, y), a(x, x), b(x, y). c(z) :- w = S(z), v = w, v = y, c(y).")
	given := graphs("ab:00,11 ba:00!,11 ab:00,11")
	for range 100 {
		wantGraphList(t, p, graphs("ab:00,11! ba:01,10 aa:01,11 ba:01,10 cc:"))
		wantOld(t, p.Rules[2], "z", "w", "v", "y")
		wantClosed(t, given, graphs("ab:00,11 ba:00!,11 aa:00!,11 bb:00!,11 ab:00!,11"))
		clear(impl.Old(p.Rules[2]))
		list := impl.GraphsOf(p)
		all, _ := impl.Closed(given)
		one, _ := impl.Compose(given[0], graph("bb:00,11"))
		if spoilGraphs(list) || spoilGraphs(all) || spoilGraphs([]impl.Graph{one}) {
			t.Fatal("two lists of one answer share memory")
		}
		if !sameGraphs(given, graphs("ab:00,11 ba:00!,11 ab:00,11")) {
			t.Fatalf("an answer shares memory with an argument: %v", given)
		}
	}
}
