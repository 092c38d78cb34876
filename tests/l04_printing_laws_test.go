package tests

import (
	"fmt"
	"math/rand/v2"
	"reflect"
	"slices"
	"strings"
	"testing"

	"loop.example/g00531/impl"
)

// hasForm looks at a rule as chapter 4 tells what has no text, one thing after
// the other; plainRule may take each place as one then.
func hasForm(r impl.Rule) bool {
	if len(r.Exps) > impl.MaxExps || r.Head.Kind != impl.LtAtom {
		return false
	}
	kids := map[int][]int{impl.ExVar: {0, 0}, impl.ExAny: {0, 0}, impl.ExTerm: {0, 0}, impl.ExCon: {0, impl.MaxExps}, impl.ExAdd: {2, 2}, impl.ExSub: {2, 2}, impl.ExMul: {2, 2}}
	times := make([]int, len(r.Exps))
	for i, e := range r.Exps {
		bounds, there := kids[e.Kind]
		if !there || len(e.Kids) < bounds[0] || len(e.Kids) > bounds[1] {
			return false
		}
		for _, k := range e.Kids {
			if k < 0 || k >= i {
				return false
			}
			times[k]++
		}
	}
	for _, l := range append([]impl.Lit{r.Head}, r.Body...) {
		if l.Kind < impl.LtAtom || l.Kind > impl.LtCmp || l.Kind == impl.LtCmp && len(l.Args) != 2 {
			return false
		}
		for _, a := range l.Args {
			if a < 0 || a >= len(r.Exps) {
				return false
			}
			times[a]++
		}
	}
	return !slices.ContainsFunc(times, func(n int) bool { return n != 1 })
}

func plainExp(r impl.Rule, n int) string {
	e := r.Exps[n]
	var kids []string
	for _, k := range e.Kids {
		text := plainExp(r, k)
		if e.Kind > impl.ExCon && r.Exps[k].Kind > impl.ExCon {
			text = "(" + text + ")"
		}
		kids = append(kids, text)
	}
	switch {
	case e.Kind == impl.ExAny:
		return "_"
	case e.Kind > impl.ExCon:
		return strings.Join(kids, []string{" + ", " - ", " * "}[e.Kind-impl.ExAdd])
	case len(kids) > 0:
		return e.Text + "(" + strings.Join(kids, ", ") + ")"
	}
	return e.Text
}

func plainLit(r impl.Rule, l impl.Lit) string {
	var args []string
	for _, a := range l.Args {
		args = append(args, plainExp(r, a))
	}
	if l.Kind == impl.LtCmp {
		return args[0] + " " + l.Name + " " + args[1]
	}
	return strings.Repeat("!", l.Kind-impl.LtAtom) + l.Name + "(" + strings.Join(args, ", ") + ")"
}

// plainRule is the text of a rule that has the form, of any length.
func plainRule(r impl.Rule) string {
	text := plainLit(r, r.Head)
	for i, l := range r.Body {
		text += []string{" :- ", ", "}[min(i, 1)] + plainLit(r, l)
	}
	return text + "."
}

// wantedProgText is what ProgText must answer; wantedRuleText likewise.
func wantedProgText(p impl.Prog) string {
	text := ""
	for _, d := range p.Types {
		var cons []string
		for _, c := range d.Cons {
			cons = append(cons, c.Name)
			if len(c.Types) > 0 {
				cons[len(cons)-1] += "(" + strings.Join(c.Types, ", ") + ")"
			}
		}
		text += fmt.Sprintf("type %s = %s.\n", d.Name, strings.Join(cons, " | "))
	}
	for _, d := range p.Rels {
		if d.Mode < impl.MdPlain || d.Mode > impl.MdInline {
			return ""
		}
		text += fmt.Sprintf("rel %s(%s)%s.\n", d.Name, strings.Join(d.Types, ", "), []string{"", " input", " output", " inline"}[d.Mode])
	}
	for _, r := range p.Rules {
		if !hasForm(r) {
			return ""
		}
		text += plainRule(r) + "\n"
	}
	if len(text) > impl.MaxSource {
		return ""
	}
	return text
}

func wantedRuleText(r impl.Rule) string {
	if !hasForm(r) || len(plainRule(r)) > impl.MaxSource {
		return ""
	}
	return plainRule(r)
}

// checkTexts holds all three functions against the texts that are wanted.
func checkTexts(t *testing.T, p impl.Prog) {
	t.Helper()
	want := wantedProgText(p)
	wantProgText(t, p, want)
	for _, r := range p.Rules {
		if got, want := impl.RuleText(r), wantedRuleText(r); got != want {
			t.Errorf("RuleText(%v) = %q, want %q", r, got, want)
		}
	}
	read, _, code := impl.Parse(want)
	wantSound(t, p, code == impl.SyOK && sameProg(read, p))
}

func TestAProgramIsReadFromItsTextAsItWas(t *testing.T) {
	printed := 0
	eachMadeUp(3000, func(s string, _ []impl.Tok, p impl.Prog) {
		checkTexts(t, p)
		text := impl.ProgText(p)
		if text == "" && !sameProg(p, impl.Prog{}) {
			if len(s) < impl.MaxSource/2 {
				t.Fatalf("there is no text of the program that was read from %q", s)
			}
			return
		}
		printed++
		again, at, code := impl.Parse(text)
		if code != impl.SyOK || at != 0 || !sameProg(again, p) || !impl.ProgSound(p) {
			t.Fatalf("Parse(%q) = %v, %d, %d, want %v", text, again, at, code, p)
		}
		if impl.ProgText(again) != text || !impl.ProgSound(again) {
			t.Fatalf("ProgText of what is read from %q is %q", text, impl.ProgText(again))
		}
	})
	if printed < 2900 {
		t.Errorf("just %d programs were printed", printed)
	}
}

// TestTheTextOfAProgramIsThatOfItsRules puts RuleText in the place of its lines.
func TestTheTextOfAProgramIsThatOfItsRules(t *testing.T) {
	eachMadeUp(500, func(_ string, _ []impl.Tok, p impl.Prog) {
		lines := impl.ProgText(impl.Prog{Types: p.Types}) + impl.ProgText(impl.Prog{Rels: p.Rels})
		for _, r := range p.Rules {
			lines += impl.RuleText(r) + "\n"
		}
		if len(lines) <= impl.MaxSource {
			wantProgText(t, p, lines)
		}
	})
}

// changed is a program in which one thing is another one, and its other things
// are as they were.
func changed(w *writer, p impl.Prog) impl.Prog {
	q := copied(p)
	number := pick(w, -1, 0, 1, 2, 3, 4, 5, 6, 7, 8, 12, impl.MaxExps)
	word := pick(w, "", "x", "X", "_", "1", "-0", `"a"`, "type", "p(). q", "A(T)", "x + y", " x")
	var spots []func()
	for i := range q.Types {
		d := &q.Types[i]
		spots = append(spots, func() { d.Name = word }, func() { d.Cons = nil }, func() { d.Cons[0].Name = word }, func() { d.Cons[0].Types = append(d.Cons[0].Types, word) })
	}
	for i := range q.Rels {
		d := &q.Rels[i]
		spots = append(spots, func() { d.Name = word }, func() { d.Mode = number }, func() { d.Types = append(d.Types, word) })
	}
	for i := range q.Rules {
		spots = append(spots, changesOf(w, &q.Rules[i], number, word)...)
	}
	if len(spots) > 0 {
		pick(w, spots...)()
	}
	return q
}

func changesOf(w *writer, r *impl.Rule, number int, word string) []func() {
	spots := []func(){
		func() { r.Exps = append(r.Exps, variable(word)) },
		func() { r.Exps = append(r.Exps, variable(word)); r.Head.Args = append(r.Head.Args, len(r.Exps)-1) },
		func() { r.Exps = r.Exps[:len(r.Exps)/2] },
		func() { r.Body = append(r.Body, impl.Lit{Kind: number, Name: word}) },
		func() { r.Body = r.Body[:len(r.Body)/2] },
		func() { slices.Reverse(r.Body) },
		func() { slices.Reverse(r.Head.Args) },
	}
	lits := []*impl.Lit{&r.Head}
	for i := range r.Body {
		lits = append(lits, &r.Body[i])
	}
	for _, l := range lits {
		spots = append(spots, func() { l.Kind = number }, func() { l.Name = word }, func() { l.Args = changedPlaces(w, l.Args, number) })
	}
	for i := range r.Exps {
		e := &r.Exps[i]
		spots = append(spots, func() { e.Kind = number }, func() { e.Text = word }, func() { e.Kids = changedPlaces(w, e.Kids, number) })
	}
	return spots
}

func changedPlaces(w *writer, places []int, number int) []int {
	if len(places) == 0 || w.IntN(4) == 0 {
		return append(places, number)
	}
	switch w.IntN(4) {
	case 0:
		return places[1:]
	case 1:
		slices.Reverse(places)
	default:
		places[w.IntN(len(places))] = number
	}
	return places
}

func copied(p impl.Prog) impl.Prog {
	q := impl.Prog{Types: slices.Clone(p.Types), Rels: slices.Clone(p.Rels), Rules: slices.Clone(p.Rules)}
	for i, d := range q.Types {
		cons := slices.Clone(d.Cons)
		for j, c := range cons {
			cons[j].Types = slices.Clone(c.Types)
		}
		q.Types[i].Cons = cons
	}
	for i, d := range q.Rels {
		q.Rels[i].Types = slices.Clone(d.Types)
	}
	for i, r := range q.Rules {
		q.Rules[i] = impl.Rule{Exps: slices.Clone(r.Exps), Head: r.Head, Body: slices.Clone(r.Body)}
		q.Rules[i].Head.Args = slices.Clone(r.Head.Args)
		for j, e := range r.Exps {
			q.Rules[i].Exps[j].Kids = slices.Clone(e.Kids)
		}
		for j, l := range r.Body {
			q.Rules[i].Body[j].Args = slices.Clone(l.Args)
		}
	}
	return q
}

func TestTextsOfChangedPrograms(t *testing.T) {
	w := &writer{Rand: rand.New(rand.NewPCG(17, 19))}
	empty, unsound, sound := 0, 0, 0
	eachMadeUp(3000, func(_ string, _ []impl.Tok, p impl.Prog) {
		for range 8 {
			q := changed(w, p)
			checkTexts(t, q)
			switch text := impl.ProgText(q); {
			case text == "":
				empty++
			case impl.ProgSound(q):
				sound++
			default:
				unsound++
			}
		}
	})
	if min(empty, unsound, sound) < 1000 {
		t.Errorf("%d programs have no text, %d are not sound, %d are", empty, unsound, sound)
	}
}

// roomy has the same items, with another one behind its length.
func roomy[T any](list []T, behind T) []T {
	return append(slices.Clone(list), behind)[:len(list)]
}

// withRoom is a program like p with rubbish behind all of its lists.
func withRoom(p impl.Prog) impl.Prog {
	q := copied(p)
	lit := impl.Lit{Kind: 77, Name: "behind", Args: []int{-7}}
	for i := range q.Types {
		for j := range q.Types[i].Cons {
			q.Types[i].Cons[j].Types = roomy(q.Types[i].Cons[j].Types, "behind")
		}
		q.Types[i].Cons = roomy(q.Types[i].Cons, impl.Con{Name: "behind"})
	}
	for i := range q.Rels {
		q.Rels[i].Types = roomy(q.Rels[i].Types, "behind")
	}
	for i := range q.Rules {
		r := &q.Rules[i]
		for j := range r.Exps {
			r.Exps[j].Kids = roomy(r.Exps[j].Kids, -7)
		}
		for j := range r.Body {
			r.Body[j].Args = roomy(r.Body[j].Args, -7)
		}
		r.Head.Args = roomy(r.Head.Args, -7)
		r.Exps, r.Body = roomy(r.Exps, impl.Exp{Kind: 77, Text: "behind"}), roomy(r.Body, lit)
	}
	q.Types = roomy(q.Types, impl.TypeDecl{Name: "behind"})
	q.Rels = roomy(q.Rels, impl.RelDecl{Name: "behind", Mode: 77})
	q.Rules = roomy(q.Rules, impl.Rule{Head: lit})
	return q
}

// unrolled is the same program with what lies behind each of its lists in it.
func unrolled(p impl.Prog) impl.Prog {
	q := impl.Prog{Types: slices.Clone(p.Types[:cap(p.Types)]), Rels: slices.Clone(p.Rels[:cap(p.Rels)]), Rules: slices.Clone(p.Rules[:cap(p.Rules)])}
	for i, d := range q.Types {
		q.Types[i].Cons = slices.Clone(d.Cons[:cap(d.Cons)])
		for j, c := range q.Types[i].Cons {
			q.Types[i].Cons[j].Types = c.Types[:cap(c.Types)]
		}
	}
	for i, d := range q.Rels {
		q.Rels[i].Types = d.Types[:cap(d.Types)]
	}
	for i, r := range q.Rules {
		q.Rules[i].Exps, q.Rules[i].Body = slices.Clone(r.Exps[:cap(r.Exps)]), slices.Clone(r.Body[:cap(r.Body)])
		q.Rules[i].Head.Args = r.Head.Args[:cap(r.Head.Args)]
		for j, e := range q.Rules[i].Exps {
			q.Rules[i].Exps[j].Kids = e.Kids[:cap(e.Kids)]
		}
		for j, l := range q.Rules[i].Body {
			q.Rules[i].Body[j].Args = l.Args[:cap(l.Args)]
		}
	}
	return copied(q)
}

func TestPrintingLeavesItsArgumentAsItWas(t *testing.T) {
	eachMadeUp(600, func(_ string, _ []impl.Tok, p impl.Prog) {
		q := withRoom(p)
		before := unrolled(q)
		text, sound := impl.ProgText(q), impl.ProgSound(q)
		for i, r := range q.Rules {
			if got, want := impl.RuleText(r), impl.RuleText(p.Rules[i]); got != want {
				t.Fatalf("RuleText with room behind the lists is %q, want %q", got, want)
			}
		}
		if text != impl.ProgText(p) || sound != impl.ProgSound(p) {
			t.Fatalf("ProgText with room behind the lists is %q, %t, want %q", text, sound, impl.ProgText(p))
		}
		if !reflect.DeepEqual(before, unrolled(q)) {
			t.Fatalf("an argument was written into: %v", q)
		}
	})
}
