package tests

import (
	"math/rand/v2"
	"reflect"
	"slices"
	"strconv"
	"strings"
	"testing"

	"loop.example/g00531/impl"
)

// typeSet has the types of an exp, or of a name.
type typeSet map[string]bool

// ruleTypes are the types that each exp of a rule must have and has, told as
// chapter 5 tells them, again and again until there are no more.
type ruleTypes struct {
	p     impl.Prog
	r     impl.Rule
	must  []typeSet
	has   []typeSet
	names map[string]typeSet
	grown bool
}

func (rt *ruleTypes) add(set typeSet, types ...string) {
	for _, name := range types {
		rt.grown = rt.grown || !set[name]
		set[name] = true
	}
}

func (rt *ruleTypes) addAll(set typeSet, more typeSet) {
	for name := range more {
		rt.add(set, name)
	}
}

func conOf(p impl.Prog, name string) (string, impl.Con, bool) {
	for _, d := range p.Types {
		for _, c := range d.Cons {
			if c.Name == name {
				return d.Name, c, true
			}
		}
	}
	return "", impl.Con{}, false
}

func relNamed(p impl.Prog, name string) (impl.RelDecl, bool) {
	for _, d := range p.Rels {
		if d.Name == name {
			return d, true
		}
	}
	return impl.RelDecl{}, false
}

func (rt *ruleTypes) lookAtExp(n int) {
	e := rt.r.Exps[n]
	switch e.Kind {
	case impl.ExVar:
		rt.addAll(rt.names[e.Text], rt.must[n])
		rt.addAll(rt.has[n], rt.names[e.Text])
	case impl.ExAny:
		rt.addAll(rt.has[n], rt.must[n])
	case impl.ExTerm:
		rt.add(rt.has[n], map[bool]string{false: "number", true: "symbol"}[e.Text[0] == '"'])
	case impl.ExCon:
		owner, con, _ := conOf(rt.p, e.Text)
		rt.add(rt.has[n], owner)
		for i, k := range e.Kids {
			rt.add(rt.must[k], con.Types[i])
		}
	default:
		rt.add(rt.has[n], "number")
		rt.add(rt.must[e.Kids[0]], "number")
		rt.add(rt.must[e.Kids[1]], "number")
	}
}

func (rt *ruleTypes) lookAtLit(l impl.Lit) {
	decl, _ := relNamed(rt.p, l.Name)
	for i, a := range l.Args {
		switch {
		case l.Kind != impl.LtCmp:
			rt.add(rt.must[a], decl.Types[i])
		case l.Name[0] == '<':
			rt.add(rt.must[a], "number")
		default:
			rt.addAll(rt.must[a], rt.has[l.Args[1-i]])
		}
	}
}

// typesOfRule wants a rule without TyName, TyArity, TyCon.
func typesOfRule(p impl.Prog, r impl.Rule) *ruleTypes {
	rt := &ruleTypes{p: p, r: r, names: map[string]typeSet{}, grown: true}
	for _, e := range r.Exps {
		rt.must, rt.has = append(rt.must, typeSet{}), append(rt.has, typeSet{})
		if e.Kind == impl.ExVar {
			rt.names[e.Text] = typeSet{}
		}
	}
	for rt.grown {
		rt.grown = false
		for n := range r.Exps {
			rt.lookAtExp(n)
		}
		for _, l := range append([]impl.Lit{r.Head}, r.Body...) {
			rt.lookAtLit(l)
		}
	}
	return rt
}

func (rt *ruleTypes) code() int {
	code := impl.TyOK
	for n, e := range rt.r.Exps {
		all := typeSet{}
		rt.addAll(all, rt.must[n])
		rt.addAll(all, rt.has[n])
		if len(all) > 1 {
			return impl.TyVar
		}
		if e.Kind == impl.ExVar && len(all) == 0 {
			code = impl.TyOpen
		}
	}
	return code
}

func (rt *ruleTypes) vars() []impl.VarType {
	var list []impl.VarType
	for n, e := range rt.r.Exps {
		if e.Kind == impl.ExVar && !slices.ContainsFunc(list, func(v impl.VarType) bool { return v.Name == e.Text }) {
			for name := range rt.has[n] {
				list = append(list, impl.VarType{Name: e.Text, Type: name})
			}
		}
	}
	return list
}

// wantedRuleCode is the code of a rule in a program whose declarations are right.
func wantedRuleCode(p impl.Prog, r impl.Rule) int {
	code := impl.TyOK
	lower := func(other int) {
		if code == impl.TyOK || other < code {
			code = other
		}
	}
	for _, l := range append([]impl.Lit{r.Head}, r.Body...) {
		decl, there := relNamed(p, l.Name)
		if l.Kind != impl.LtCmp && !there {
			lower(impl.TyName)
		} else if l.Kind != impl.LtCmp && len(l.Args) != len(decl.Types) {
			lower(impl.TyArity)
		}
	}
	for _, e := range r.Exps {
		_, con, there := conOf(p, e.Text)
		if e.Kind == impl.ExCon && (!there || len(con.Types) != len(e.Kids)) {
			lower(impl.TyCon)
		}
	}
	if code == impl.TyOK {
		return typesOfRule(p, r).code()
	}
	return code
}

func isTwice(list []string) bool {
	return len(slices.Compact(slices.Sorted(slices.Values(list)))) < len(list)
}

func wantedDeclarationCode(p impl.Prog) int {
	types, cons, rels := []string{"number", "symbol"}, []string{}, []string{}
	var asked []string
	for _, d := range p.Types {
		types = append(types, d.Name)
		for _, c := range d.Cons {
			cons = append(cons, c.Name)
			asked = append(asked, c.Types...)
		}
	}
	for _, d := range p.Rels {
		rels = append(rels, d.Name)
		asked = append(asked, d.Types...)
	}
	switch {
	case !impl.ProgSound(p):
		return impl.TyForm
	case isTwice(types), isTwice(cons), slices.ContainsFunc(asked, func(name string) bool { return !slices.Contains(types, name) }):
		return impl.TyType
	case isTwice(rels):
		return impl.TyRel
	}
	return impl.TyOK
}

func wantedTypes(p impl.Prog) (int, int) {
	if code := wantedDeclarationCode(p); code != impl.TyOK {
		return -1, code
	}
	for i, r := range p.Rules {
		if code := wantedRuleCode(p, r); code != impl.TyOK {
			return i, code
		}
	}
	return -1, impl.TyOK
}

// checkAllTypes holds CheckTypes and VarTypes against what is wanted of a program,
// and answers the code.
func checkAllTypes(t *testing.T, p impl.Prog) int {
	t.Helper()
	at, code := wantedTypes(p)
	wantTypes(t, p, at, code)
	for n := -2; n < len(p.Rules)+2; n++ {
		var want []impl.VarType
		if code == impl.TyOK && n >= 0 && n < len(p.Rules) {
			want = typesOfRule(p, p.Rules[n]).vars()
		}
		if got := impl.VarTypes(p, n); !slices.Equal(got, want) {
			t.Errorf("VarTypes(%s, %d) = %v, want %v", impl.ProgText(p), n, got, want)
		}
	}
	return code
}

// typedWriter makes rules up most of whose exps have the types that they must
// have; wrong is how many of a hundred are of any type.
type typedWriter struct {
	*writer
	wrong int
	vars  map[string]string // the types that names are meant to have
}

func (w *typedWriter) slips() bool { return w.IntN(100) < w.wrong }

func (w *typedWriter) anyType() string { return pick(w.writer, "number", "symbol", "List", "Tree") }

func (w *typedWriter) variable(name string) string {
	all := []string{"a", "b", "c", "d", "e", "f"}
	for range 20 {
		v := pick(w.writer, all...)
		if w.vars[v] == "" {
			w.vars[v] = name
		}
		if w.vars[v] == name {
			return v
		}
	}
	return "of_" + strings.ToLower(name)
}

func (w *typedWriter) exps(depth int, types ...string) string {
	if w.slips() {
		types = types[:len(types)/2]
	}
	var texts []string
	for _, name := range types {
		texts = append(texts, w.exp(name, depth))
	}
	return "(" + strings.Join(texts, ", ") + ")"
}

func (w *typedWriter) con(depth int, name string, types ...string) string {
	if len(types) == 0 {
		return name
	}
	if text := w.exps(depth, types...); text != "()" {
		return name + text
	}
	return name
}

func (w *typedWriter) exp(name string, depth int) string {
	if w.slips() {
		name = w.anyType()
	}
	if depth == 0 || w.IntN(3) == 0 {
		return pick(w.writer, "_", w.variable(name), w.variable(name), w.variable(name))
	}
	switch name {
	case "number":
		sum := w.exp(name, depth-1) + pick(w.writer, " + ", " - ", " * ") + w.exp(name, depth-1)
		return pick(w.writer, "1", "-7", "("+sum+")")
	case "symbol":
		return pick(w.writer, `"a"`, `"1"`)
	case "List":
		return pick(w.writer, "Nil", w.con(depth-1, "Cons", "number", "List"))
	}
	return pick(w.writer, "Leaf", w.con(depth-1, "Of", "List"), w.con(depth-1, "Node", "Tree", "symbol", "Tree"))
}

func (w *typedWriter) atom() string {
	switch w.IntN(9) {
	case 0:
		return "none()"
	case 1:
		return "sym" + w.exps(2, "symbol")
	case 2:
		return "list" + w.exps(2, "List")
	case 3:
		return "tree" + w.exps(3, "Tree")
	case 4:
		return "edge" + w.exps(2, "number", "number")
	case 5:
		return "name" + w.exps(2, "number", "symbol")
	case 6:
		return "many" + w.exps(1, "number", "symbol", "List", "Tree", "number", "symbol")
	}
	if w.slips() {
		return "other()"
	}
	return "num" + w.exps(2, "number")
}

func (w *typedWriter) literal() string {
	name := w.anyType()
	switch w.IntN(8) {
	case 0, 1, 2:
		return w.atom()
	case 3:
		return "!" + w.atom()
	case 4:
		return w.exp("number", 2) + pick(w.writer, " < ", " <= ") + w.exp("number", 2)
	case 5:
		return w.exp(name, 2) + pick(w.writer, " = ", " != ") + w.exp(name, 2)
	}
	return w.variable(name) + pick(w.writer, " = ", " != ") + w.variable(name)
}

func (w *typedWriter) rule() string {
	w.vars = map[string]string{}
	text := w.atom()
	sign := " :- "
	for range w.IntN(6) {
		text += sign + w.literal()
		sign = ", "
	}
	return text + ".\n"
}

// eachTyped calls with programs of one or two rules, always the same ones.
func eachTyped(n, wrong int, call func(p impl.Prog)) {
	w := &typedWriter{writer: &writer{Rand: rand.New(rand.NewPCG(23, 29))}, wrong: wrong}
	for made := 0; made < n; {
		s := declarations
		for range 1 + w.IntN(2) {
			s += w.rule()
		}
		if p, _, code := impl.Parse(s); code == impl.SyOK {
			call(p)
			made++
		}
	}
}

func TestTypesOfMadeUpRules(t *testing.T) {
	codes := map[int]int{}
	for _, wrong := range []int{0, 3} {
		eachTyped(3000, wrong, func(p impl.Prog) { codes[checkAllTypes(t, p)]++ })
	}
	for _, code := range []int{impl.TyOK, impl.TyName, impl.TyArity, impl.TyCon, impl.TyVar, impl.TyOpen} {
		if codes[code] < 20 {
			t.Errorf("%d programs have the code %d", codes[code], code)
		}
	}
}

// TestTypesOfChangedPrograms has one thing changed in programs that have, or have
// not, names and types that are right.
func TestTypesOfChangedPrograms(t *testing.T) {
	w := &writer{Rand: rand.New(rand.NewPCG(31, 37))}
	codes := map[int]int{}
	eachTyped(1500, 0, func(p impl.Prog) {
		codes[checkAllTypes(t, changed(w, p))]++
		q := copied(p)
		switch w.IntN(4) {
		case 0:
			q.Types = append(q.Types, pick(w, q.Types...))
		case 1:
			q.Rels = append(q.Rels, pick(w, q.Rels...))
		case 2:
			q.Types = slices.Delete(q.Types, 1, 2)
		default:
			i := w.IntN(len(q.Rels))
			q.Rels = slices.Delete(q.Rels, i, i+1)
		}
		codes[checkAllTypes(t, q)]++
	})
	eachMadeUp(1500, func(_ string, _ []impl.Tok, p impl.Prog) { codes[checkAllTypes(t, p)]++ })
	for code := range impl.TyArity {
		if codes[code] < 20 {
			t.Errorf("%d programs have the code %d", codes[code], code)
		}
	}
}

// TestTypesOfAllShortBodies puts three literals into a body, in all orders, and
// has the same code, and the same types of names, in all of them.
func TestTypesOfAllShortBodies(t *testing.T) {
	lits := []string{
		"x = y", "y = z", "z != x", "_ = x", "_ = _", "x = 1", `"a" = y`, "z = Nil", "num(x)", "!sym(y)", "list(z)", "name(y, z)", "x < y", "z <= 1",
		"y = Cons(x, z)", "z = x + 1", "Of(x) = y", "list(Cons(x, y))", "num(z * x)",
	}
	for i := range lits {
		for j := i; j < len(lits); j++ {
			for k := j; k < len(lits); k++ {
				bodies := [][]string{{lits[i], lits[j], lits[k]}, {lits[k], lits[i], lits[j]}, {lits[j], lits[i], lits[k]}, {lits[k], lits[j], lits[i]}}
				checkOrders(t, bodies)
			}
		}
	}
}

func checkOrders(t *testing.T, bodies [][]string) {
	t.Helper()
	var first impl.Prog
	for i, body := range bodies {
		p := parsed(t, declarations+"none() :- "+strings.Join(body, ", ")+".")
		checkAllTypes(t, p)
		if i == 0 {
			first = p
		}
		_, code := impl.CheckTypes(p)
		if _, want := impl.CheckTypes(first); code != want {
			t.Errorf("the codes of %v and %v are %d and %d", bodies[0], body, want, code)
		}
		if !slices.Equal(byName(impl.VarTypes(p, 0)), byName(impl.VarTypes(first, 0))) {
			t.Errorf("the types of %v and %v are %v and %v", bodies[0], body, impl.VarTypes(first, 0), impl.VarTypes(p, 0))
		}
	}
}

func byName(list []impl.VarType) []impl.VarType {
	return slices.SortedFunc(slices.Values(list), func(a, b impl.VarType) int { return strings.Compare(a.Name, b.Name) })
}

// someTerm makes a term up that has the type.
func someTerm(w *writer, name string, depth int) string {
	switch name {
	case "number":
		return strconv.Itoa(w.IntN(19) - 9)
	case "symbol":
		return pick(w, `"a"`, `"b"`, `""`)
	case "List":
		if depth > 0 {
			return "Cons(" + someTerm(w, "number", 0) + "," + someTerm(w, "List", depth-1) + ")"
		}
		return "Nil"
	}
	switch {
	case depth == 0:
		return "Leaf"
	case w.IntN(2) == 0:
		return "Of(" + someTerm(w, "List", depth-1) + ")"
	}
	return "Node(" + someTerm(w, "Tree", depth-1) + "," + someTerm(w, "symbol", 0) + "," + someTerm(w, "Tree", 0) + ")"
}

// valueWith is the term that an exp is with values for names; empty where it is
// none.
func valueWith(r impl.Rule, n int, vals map[string]string) string {
	e := r.Exps[n]
	var kids []string
	for _, k := range e.Kids {
		kids = append(kids, valueWith(r, k, vals))
	}
	switch e.Kind {
	case impl.ExVar:
		return vals[e.Text]
	case impl.ExAny:
		return ""
	case impl.ExTerm:
		return e.Text
	case impl.ExCon:
		s, _ := impl.TermMake(e.Text, kids)
		return s
	}
	a, okA := impl.TermNum(kids[0])
	b, okB := impl.TermNum(kids[1])
	if !okA || !okB {
		return ""
	}
	return impl.NumTerm(map[int]int{impl.ExAdd: a + b, impl.ExSub: a - b, impl.ExMul: a * b}[e.Kind])
}

// TestWhatARuleMakesHasTheTypeOfItsPlace gives each name of a rule a value of its
// type.
func TestWhatARuleMakesHasTheTypeOfItsPlace(t *testing.T) {
	w := &writer{Rand: rand.New(rand.NewPCG(41, 43))}
	made := 0
	eachTyped(2500, 0, func(p impl.Prog) {
		for n, r := range p.Rules {
			vals := map[string]string{}
			for _, v := range impl.VarTypes(p, n) {
				vals[v.Name] = someTerm(w, v.Type, 2)
				wantHas(t, p, vals[v.Name], v.Type, true)
			}
			for _, l := range append([]impl.Lit{r.Head}, r.Body...) {
				decl, isRel := relNamed(p, l.Name)
				for i, a := range l.Args {
					if s := valueWith(r, a, vals); s != "" && isRel {
						wantHas(t, p, s, decl.Types[i], true)
						made++
					}
				}
			}
		}
	})
	if made < 3000 {
		t.Errorf("just %d terms were made", made)
	}
}

// fits gives names the values that a term has at their places, as far as it has
// the form of the exp.
func fits(r impl.Rule, n int, s string, give func(name, value string)) {
	e := r.Exps[n]
	switch e.Kind {
	case impl.ExVar:
		give(e.Text, s)
	case impl.ExCon:
		name, args := impl.TermParts(s)
		if name != e.Text {
			return
		}
		for i, k := range e.Kids {
			fits(r, k, args[i], give)
		}
	}
}

// TestWhatANameGetsHasItsType takes rows of the types of their places apart.
func TestWhatANameGetsHasItsType(t *testing.T) {
	w := &writer{Rand: rand.New(rand.NewPCG(47, 53))}
	given := 0
	eachTyped(2500, 0, func(p impl.Prog) {
		for n, r := range p.Rules {
			types := map[string]string{}
			for _, v := range impl.VarTypes(p, n) {
				types[v.Name] = v.Type
			}
			for _, l := range r.Body {
				decl, isRel := relNamed(p, l.Name)
				for i, a := range l.Args {
					if len(types) == 0 || !isRel {
						continue
					}
					fits(r, a, someTerm(w, decl.Types[i], 3), func(name, value string) {
						wantHas(t, p, value, types[name], true)
						given++
					})
				}
			}
		}
	})
	if given < 1000 {
		t.Errorf("just %d values were given", given)
	}
}

func TestTypesLeaveTheirArgumentsAsTheyWere(t *testing.T) {
	eachTyped(400, 2, func(p impl.Prog) {
		q := withRoom(p)
		before := unrolled(q)
		rule, code := impl.CheckTypes(q)
		wantTypes(t, p, rule, code)
		for n := range q.Rules {
			if got, want := impl.VarTypes(q, n), impl.VarTypes(p, n); !slices.Equal(got, want) {
				t.Fatalf("VarTypes with room behind the lists is %v, want %v", got, want)
			}
		}
		wantHas(t, q, "Cons(1,Nil)", "List", true)
		wantHas(t, q, "behind", "behind", false)
		if !reflect.DeepEqual(before, unrolled(q)) {
			t.Fatalf("an argument was written into: %v", q)
		}
	})
}

// TestEachAnswerOfVarTypesIsNew writes into one answer and asks again.
func TestEachAnswerOfVarTypesIsNew(t *testing.T) {
	p := parsed(t, declarations+"name(x, y) :- x = z, name(z, y).")
	for range 3 {
		wantVars(t, p, 0, "x", "number", "y", "symbol", "z", "number")
		list := impl.VarTypes(p, 0)
		for i := range list[:cap(list)] {
			list[:cap(list)][i] = impl.VarType{Name: "other", Type: "Other"}
		}
	}
}
