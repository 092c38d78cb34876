package tests

import (
	"math/rand/v2"
	"reflect"
	"regexp"
	"slices"
	"strings"
	"testing"

	"loop.example/g00531/impl"
)

// factWriter makes up declarations, and rows of any terms that have their types.
type factWriter struct{ *writer }

func newFactWriter(seed uint64) *factWriter {
	return &factWriter{&writer{Rand: rand.New(rand.NewPCG(seed, 271))}}
}

func (w *factWriter) nameOf(first string) string {
	name := pick(w.writer, strings.Split(first, "")...)
	for range pick(w.writer, 0, 1, 1, 2, 3, impl.MaxName-1) {
		name += pick(w.writer, "a", "b", "Z", "0", "_")
	}
	return name
}

// namesOf are n names that are not the same.
func (w *factWriter) namesOf(n int, first string) []string {
	var list []string
	for len(list) < n {
		if name := w.nameOf(first); !slices.Contains(list, name) {
			list = append(list, name)
		}
	}
	return list
}

func (w *factWriter) someTypes(most int, names []string) []string {
	var list []string
	for range w.IntN(most + 1) {
		list = append(list, pick(w.writer, names...))
	}
	return list
}

// program has types of which the first constructor has no types, and relations.
func (w *factWriter) program() impl.Prog {
	var p impl.Prog
	owners := w.namesOf(w.IntN(4), "TUV")
	types := append([]string{"number", "symbol"}, owners...)
	cons := w.namesOf(3*len(owners), "ABC")
	for i, owner := range owners {
		decl := impl.TypeDecl{Name: owner, Cons: []impl.Con{{Name: cons[3*i]}}}
		for _, name := range cons[3*i+1 : 3*i+1+w.IntN(3)] {
			decl.Cons = append(decl.Cons, impl.Con{Name: name, Types: w.someTypes(3, types)})
		}
		p.Types = append(p.Types, decl)
	}
	for _, name := range w.namesOf(w.IntN(6), "pqr") {
		p.Rels = append(p.Rels, impl.RelDecl{Name: name, Types: w.someTypes(impl.MaxArity, types), Mode: w.IntN(4)})
	}
	return p
}

func (w *factWriter) symbol() string {
	s := ""
	for range pick(w.writer, 0, 1, 1, 2, 4, impl.MaxName) {
		s += pick(w.writer, "a", "b", " ", ",", ", ", "(", ")", ").", ".", "1", "Z", "!", "~", "'")
	}
	return `"` + s[:min(len(s), impl.MaxName)] + `"`
}

func (w *factWriter) term(p impl.Prog, name string, depth int) string {
	switch name {
	case "number":
		return pick(w.writer, "0", "1", "-1", "9", "10", "-10", "12", "1000000", "-1000000")
	case "symbol":
		return w.symbol()
	}
	at := slices.IndexFunc(p.Types, func(decl impl.TypeDecl) bool { return decl.Name == name })
	con := p.Types[at].Cons[0]
	if depth > 0 {
		con = pick(w.writer, p.Types[at].Cons...)
	}
	var args []string
	for _, kind := range con.Types {
		args = append(args, w.term(p, kind, depth-1))
	}
	s, _ := impl.TermMake(con.Name, args)
	return s // empty where it is too long
}

// drawn is a Db with at most so many rows in each relation.
func (w *factWriter) drawn(p impl.Prog, most int) impl.Db {
	d := impl.DbEmpty(p)
	for at, decl := range p.Rels {
		for range w.IntN(most + 1) {
			var x impl.Tuple
			for _, name := range decl.Types {
				x.T = append(x.T, w.term(p, name, 3))
			}
			if r, ok := impl.RelPut(d.Rels[at], x); ok {
				d.Rels[at] = r
			}
		}
	}
	return d
}

// wantedFactsText tells a Db by what the chapters ahead say of its parts.
func wantedFactsText(p impl.Prog, d impl.Db) string {
	s := ""
	for i, r := range d.Rels {
		for _, x := range r.Rows {
			s += p.Rels[i].Name + "("
			for j, text := range x.T {
				s += map[bool]string{true: ", "}[j > 0] + text
			}
			s += ").\n"
		}
	}
	return s
}

var factForm = regexp.MustCompile(`^([a-z][A-Za-z0-9_]{0,19})\((.*)\)\.$`)

// partsOfFact splits at each `, ` that is not within quotes: nothing else in a term
// has a blank.
func partsOfFact(line string) (string, []string, bool) {
	found := factForm.FindStringSubmatch(line)
	if found == nil {
		return "", nil, false
	}
	var list []string
	if found[2] != "" {
		for i, piece := range strings.Split(found[2], `"`) {
			if i%2 == 0 {
				piece = strings.ReplaceAll(piece, ", ", "\n")
			}
			if i == 0 {
				list = append(list, piece)
			} else {
				list[0] += `"` + piece
			}
		}
		list = strings.Split(list[0], "\n")
	}
	return found[1], list, !slices.ContainsFunc(list, func(s string) bool { return impl.TermKind(s) == impl.TkNone })
}

func wantedFact(p impl.Prog, d *impl.Db, line string) int {
	name, list, ok := partsOfFact(line)
	if !ok {
		return impl.FcForm
	}
	decl, there := relNamed(p, name)
	if !there || len(decl.Types) != len(list) {
		return impl.FcRel
	}
	for i, s := range list {
		if !impl.TermHas(p, s, decl.Types[i]) {
			return impl.FcType
		}
	}
	r := &d.Rels[placeOf(p, name)]
	if slices.ContainsFunc(r.Rows, func(x impl.Tuple) bool { return slices.Equal(x.T, list) }) {
		return impl.FcOK
	}
	if len(r.Rows) == impl.MaxRows {
		return impl.FcMany
	}
	r.Rows = append(r.Rows, impl.Tuple{T: list})
	return impl.FcOK
}

// wantedFacts is what is wanted of FactsRead.
func wantedFacts(p impl.Prog, s string) (impl.Db, int, int) {
	switch {
	case !impl.Ready(p):
		return impl.Db{}, 0, impl.FcProg
	case len(s) > impl.MaxFacts:
		return impl.Db{}, 0, impl.FcLong
	}
	d := impl.DbEmpty(p)
	pieces := strings.Split(s, "\n")
	last := len(pieces) - 1
	for i, line := range pieces[:last] {
		if line == "" {
			continue
		}
		if code := wantedFact(p, &d, line); code != impl.FcOK {
			return impl.Db{}, i + 1, code
		}
	}
	if pieces[last] != "" {
		return impl.Db{}, last + 1, impl.FcForm
	}
	for _, r := range d.Rels {
		slices.SortFunc(r.Rows, impl.TupleCmp)
	}
	return d, 0, impl.FcOK
}

// checkFactsRead answers the code.
func checkFactsRead(t *testing.T, p impl.Prog, s string) int {
	t.Helper()
	d, line, code := wantedFacts(p, s)
	wantFactsRead(t, p, s, d, line, code)
	if code == impl.FcOK {
		wantDbOk(t, "what is read", p, d, true)
	}
	return code
}

// eachFacts calls with programs that are Ready and a Db for each, always the same
// ones: programs without rules, and such as earlier chapters make up.
func eachFacts(n int, call func(w *factWriter, p impl.Prog, d impl.Db)) {
	w := newFactWriter(269)
	for range n {
		p := w.program()
		call(w, p, w.drawn(p, pick(w.writer, 0, 1, 3, 8)))
	}
	eachFired(n/4, true, func(_ *fireWriter, p impl.Prog, d impl.Db) { call(w, p, d) })
	eachTyped(n/4, 0, func(p impl.Prog) {
		if impl.Ready(p) {
			call(w, p, w.drawn(p, 4))
		}
	})
}

// TestFactsAreReadFromTheirTextAsTheyWere: within MaxFacts bytes.
func TestFactsAreReadFromTheirTextAsTheyWere(t *testing.T) {
	met := map[string]int{}
	eachFacts(1500, func(w *factWriter, p impl.Prog, d impl.Db) {
		wantDbOk(t, "a Db that is made up", p, d, true)
		s := impl.FactsText(p, d)
		wantFactsText(t, p, d, wantedFactsText(p, d))
		if len(s) > impl.MaxFacts {
			wantFault(t, p, s, 0, impl.FcLong)
			met["too long"]++
			return
		}
		wantFactsRead(t, p, s, d, 0, impl.FcOK)
		read, _, _ := impl.FactsRead(p, s)
		if again := impl.FactsText(p, read); again != s {
			t.Errorf("the text of what was read is %.300q, not %.300q", again, s)
		}
		shuffled := strings.SplitAfter(s, "\n")
		w.Shuffle(len(shuffled), func(i, j int) { shuffled[i], shuffled[j] = shuffled[j], shuffled[i] })
		wantFactsRead(t, p, strings.Join(shuffled, ""), d, 0, impl.FcOK)
		if twice := strings.Join(append(shuffled, shuffled...), ""); len(twice) <= impl.MaxFacts {
			wantFactsRead(t, p, twice, d, 0, impl.FcOK)
		}
		for at, r := range d.Rels {
			for _, x := range r.Rows {
				wantFactText(t, p, at, x, strings.TrimSuffix(wantedFactsText(p, onlyRow(p, at, x)), "\n"))
				met["row"]++
			}
		}
		met[map[bool]string{true: "nothing", false: "facts"}[s == ""]]++
	})
	wantEach(t, met, 100, "row", "nothing", "facts")
}

// onlyRow has one row, for the relation at a place.
func onlyRow(p impl.Prog, at int, x impl.Tuple) impl.Db {
	d := impl.DbEmpty(p)
	d.Rels[at].Rows = []impl.Tuple{x}
	return d
}

// spoilText puts a fault into a text, or what may be one.
func (w *factWriter) spoilText(p, other impl.Prog, s string) string {
	at := w.IntN(len(s) + 1)
	switch w.IntN(8) {
	case 0:
		return s[:at] + pick(w.writer, " ", ",", ", ", ".", "(", ")", `"`, "\n", "\r", "\r\n", "1", "0", "-", "A", "a", "_", "\x00", "\xff") + s[at:]
	case 1:
		return s[:at] + s[min(at+1+w.IntN(3), len(s)):]
	case 2:
		return strings.Replace(s, pick(w.writer, ", ", ",", "(", ")", ").", `"`, "\n", "A", "B", "1"), pick(w.writer, "", " ", ",", ", ", ")", "(", `"`, "\n\n", "A", "2"), 1)
	case 3:
		return s[:at]
	case 4:
		return s[at:]
	case 5, 6:
		if len(p.Rels) > 0 {
			return s + pick(w.writer, p.Rels...).Name + "(" + strings.Join(w.someTerms(p), ", ") + ").\n"
		}
	}
	return s + impl.FactsText(other, w.drawn(other, 1))
}

func (w *factWriter) someTerms(p impl.Prog) []string {
	names := []string{"number", "symbol"}
	for _, decl := range p.Types {
		names = append(names, decl.Name)
	}
	var list []string
	for _, name := range w.someTypes(2, names) {
		list = append(list, w.term(p, name, 2))
	}
	return list
}

func TestFactsReadOfMadeUpTexts(t *testing.T) {
	codes := map[int]int{}
	eachFacts(2000, func(w *factWriter, p impl.Prog, d impl.Db) {
		s := impl.FactsText(p, d)
		for range 3 {
			s = w.spoilText(p, w.program(), s)
			codes[checkFactsRead(t, p, s)]++
		}
	})
	for code, least := range map[int]int{impl.FcOK: 500, impl.FcForm: 1000, impl.FcRel: 500, impl.FcType: 100} {
		if codes[code] < least {
			t.Errorf("there were the codes %v", codes)
		}
	}
}

// TestFactsReadOfManyRows has texts near both limits, that of rows and that of bytes.
func TestFactsReadOfManyRows(t *testing.T) {
	codes := map[int]int{}
	w := newFactWriter(277)
	p := parsed(t, "type T = A | B(number). rel p(number). rel q(T, number).")
	for range 200 {
		s := ""
		most := 380 + w.IntN(500)
		for len(s) < impl.MaxFacts-40 {
			s += "p(" + impl.NumText(w.IntN(most)) + ").\n"
			if w.IntN(600) == 0 {
				s += pick(w.writer, "q(A, 1).\n", "q(B(7), 2).\n", "\n", "q(1, 1).\n", "r(1).\n", "p(1)\n")
			}
		}
		codes[checkFactsRead(t, p, s+strings.Repeat("\n", w.IntN(50)))]++
	}
	for _, code := range []int{impl.FcOK, impl.FcMany, impl.FcLong, impl.FcForm, impl.FcRel, impl.FcType} {
		if codes[code] < 5 {
			t.Errorf("there were the codes %v", codes)
		}
	}
}

// TestFactsLeaveTheirArgumentsAsTheyWere has rubbish behind all lists.
func TestFactsLeaveTheirArgumentsAsTheyWere(t *testing.T) {
	eachFacts(400, func(w *factWriter, p impl.Prog, d impl.Db) {
		s := wantedFactsText(p, d)
		q, roomyD := withRoom(p), roomyDb(d)
		before, beforeD := unrolled(q), wholeDb(roomyD)
		wantFactsText(t, q, roomyD, s)
		if len(s) <= impl.MaxFacts {
			wantFactsRead(t, q, s, d, 0, impl.FcOK)
		}
		for at, r := range roomyD.Rels {
			for _, x := range r.Rows {
				wantFactText(t, q, at, x, strings.TrimSuffix(wantedFactsText(p, onlyRow(p, at, x)), "\n"))
			}
		}
		wantFactText(t, q, len(q.Rels), row("1"), "")
		if !reflect.DeepEqual(before, unrolled(q)) || beforeD != wholeDb(roomyD) {
			t.Fatalf("an argument was written into: %v, %v", q, roomyD)
		}
	})
}

func TestWhatLiesBehindTheListsOfFactsIsNotRead(t *testing.T) {
	p := parsed(t, declarations)
	d := dbOf(t, p, "edge(1,2)")
	edge := placeOf(p, "edge")
	d.Rels[edge] = roomyRel(d.Rels[edge], row("3", "4"))
	wantFactsText(t, p, d, "edge(1, 2).\n")
	wantFactText(t, p, edge, d.Rels[edge].Rows[0], "edge(1, 2).")
	p.Rels = p.Rels[:edge]
	wantFactsText(t, p, d, "")
	wantFactText(t, p, edge, row("1", "2"), "")
	wantFault(t, p, "edge(1, 2).\n", 1, impl.FcRel)
	d.Rels = d.Rels[:edge]
	wantFactsText(t, p, d, "")
	wantFactsRead(t, p, "num(1).\n", dbOf(t, p, "num(1)"), 0, impl.FcOK)
}

// TestEachAnswerOfFactsIsNew writes into one answer and asks again: no call keeps
// anything for another one.
func TestEachAnswerOfFactsIsNew(t *testing.T) {
	p := parsed(t, declarations+"num(1).")
	s := lines("edge(2, 1).", "num(7).", "edge(1, 2).", "none().", "list(Cons(1,Nil)).", "edge(1, 2).", `many(1, "a", Nil, Leaf, 2, "b").`, `many(2, "a", Nil, Leaf, 2, "b").`)
	for range 20 {
		for _, bad := range []string{"x\n", "\nnum(Nil).\n", "num(5).\nother().\n", strings.Repeat("\n", impl.MaxFacts+1)} {
			if d, line, code := impl.FactsRead(p, bad); len(d.Rels) > 0 || code == impl.FcOK || line > 2 {
				t.Errorf("FactsRead(%.20q) = %v, %d, %d", bad, d, line, code)
			}
		}
		d, line, code := impl.FactsRead(p, s)
		if want := dbOf(t, p, `edge(1,2) edge(2,1) num(7) none() list(Cons(1,Nil)) many(1,"a",Nil,Leaf,2,"b") many(2,"a",Nil,Leaf,2,"b")`); line != 0 || code != impl.FcOK || !sameDb(d, want) {
			t.Fatalf("FactsRead is %q, %d, %d", factWords(p, d), line, code)
		}
		if spoilDb(d) {
			t.Fatal("two lists of one answer share memory")
		}
	}
}
