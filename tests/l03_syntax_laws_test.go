package tests

import (
	"fmt"
	"math/rand/v2"
	"slices"
	"strings"
	"testing"

	"loop.example/g00531/impl"
)

// writer makes a program up: its words in the order of the text, and the tree
// that Parse must make of them.
type writer struct {
	*rand.Rand
	words []string
	exps  []impl.Exp
}

func (w *writer) write(words ...string) { w.words = append(w.words, words...) }

func pick[T any](w *writer, items ...T) T { return items[w.IntN(len(items))] }

// several calls least to most times, with the sign written between.
func (w *writer) several(least, most int, sign string, call func()) {
	for i := range least + w.IntN(most-least+1) {
		if i > 0 {
			w.write(sign)
		}
		call()
	}
}

func (w *writer) put(exp impl.Exp) int {
	w.exps = append(w.exps, exp)
	return len(w.exps) - 1
}

// exp writes one that may stand, without brackets, where the level is: 0 a sum,
// 1 a product, 2 neither. Some brackets that need not be there come, too.
func (w *writer) exp(level, depth int) int {
	kind := pick(w, impl.ExVar, impl.ExAny, impl.ExTerm, impl.ExCon)
	if depth > 0 {
		kind = pick(w, impl.ExVar, impl.ExTerm, impl.ExCon, impl.ExAdd, impl.ExSub, impl.ExMul)
	}
	bracket := w.IntN(6) == 0 || level > 0 && (kind == impl.ExAdd || kind == impl.ExSub) || level > 1 && kind == impl.ExMul
	if bracket {
		w.write("(")
		defer w.write(")")
	}
	switch kind {
	case impl.ExAdd:
		return w.pair(kind, "+", 0, depth)
	case impl.ExSub:
		return w.pair(kind, "-", 0, depth)
	case impl.ExMul:
		return w.pair(kind, "*", 1, depth)
	}
	return w.single(kind, depth)
}

func (w *writer) pair(kind int, sign string, level, depth int) int {
	left := w.exp(level, depth-1)
	w.write(sign)
	right := w.exp(level+1, depth-1)
	return w.put(reckon(kind, left, right))
}

func (w *writer) single(kind, depth int) int {
	switch kind {
	case impl.ExVar:
		name := pick(w, "x", "y", "type", "rel", "number", "v_1", "n2345678901234567890")
		w.write(name)
		return w.put(variable(name))
	case impl.ExAny:
		w.write("_")
		return w.put(anything())
	case impl.ExTerm:
		return w.term()
	}
	name := pick(w, "A", "Nil", "C_0", "N2345678901234567890")
	w.write(name)
	var kids []int
	if depth > 0 {
		w.write("(")
		w.several(1, 3, ",", func() { kids = append(kids, w.exp(0, depth-1)) })
		w.write(")")
	}
	return w.put(construct(name, kids...))
}

func (w *writer) term() int {
	text := pick(w, "0", "1", "42", "1000000", `""`, `"a b"`, `"//"`, `"(,)"`)
	if text[0] != '"' && text != "0" && w.IntN(2) == 0 {
		w.write("-", text)
		return w.put(term("-" + text))
	}
	w.write(text)
	return w.put(term(text))
}

func (w *writer) atom(kind int, name string) impl.Lit {
	w.write(name, "(")
	lit := impl.Lit{Kind: kind, Name: name}
	w.several(0, 3, ",", func() { lit.Args = append(lit.Args, w.exp(0, w.IntN(3))) })
	w.write(")")
	return lit
}

func (w *writer) literal() impl.Lit {
	name := pick(w, "p", "q", "type", "rel", "input")
	switch w.IntN(3) {
	case 0:
		return w.atom(impl.LtAtom, name)
	case 1:
		w.write("!")
		return w.atom(impl.LtNot, name)
	}
	left := w.exp(0, w.IntN(3))
	sign := pick(w, "=", "!=", "<", "<=")
	w.write(sign)
	right := w.exp(0, w.IntN(3))
	return compare(sign, left, right)
}

func (w *writer) rule() impl.Rule {
	w.exps = nil
	r := impl.Rule{Head: w.atom(impl.LtAtom, pick(w, "p", "q", "number", "output"))}
	if w.IntN(4) > 0 {
		w.write(":-")
		w.several(1, 3, ",", func() { r.Body = append(r.Body, w.literal()) })
	}
	r.Exps = w.exps
	return r
}

func (w *writer) types(least int) []string {
	var types []string
	w.several(least, 4, ",", func() {
		types = append(types, pick(w, "number", "symbol", "T", "List"))
		w.write(types[len(types)-1])
	})
	return types
}

func (w *writer) con() impl.Con {
	con := impl.Con{Name: pick(w, "A", "B", "T")}
	w.write(con.Name)
	if w.IntN(2) == 0 {
		w.write("(")
		con.Types = w.types(1)
		w.write(")")
	}
	return con
}

func (w *writer) typeDecl() impl.TypeDecl {
	decl := impl.TypeDecl{Name: pick(w, "T", "List")}
	w.write("type", decl.Name, "=")
	w.several(1, 4, "|", func() { decl.Cons = append(decl.Cons, w.con()) })
	return decl
}

func (w *writer) relDecl() impl.RelDecl {
	decl := impl.RelDecl{Name: pick(w, "p", "q", "type", "rel", "input"), Mode: w.IntN(4)}
	w.write("rel", decl.Name, "(")
	decl.Types = w.types(0)
	w.write(")")
	w.write(map[int][]string{impl.MdInput: {"input"}, impl.MdOutput: {"output"}, impl.MdInline: {"inline"}}[decl.Mode]...)
	return decl
}

func (w *writer) program() impl.Prog {
	var p impl.Prog
	for range w.IntN(6) {
		switch w.IntN(4) {
		case 0:
			p.Types = append(p.Types, w.typeDecl())
		case 1:
			p.Rels = append(p.Rels, w.relDecl())
		default:
			p.Rules = append(p.Rules, w.rule())
		}
		w.write(".")
	}
	return p
}

func isWordByte(b byte) bool {
	return b == '_' || b >= '0' && b <= '9' || b >= 'a' && b <= 'z' || b >= 'A' && b <= 'Z'
}

// source lays the words out, with any blanks between them, and none where they
// stay apart without; and tells the tokens that come.
func (w *writer) source() (string, []impl.Tok) {
	s := pick(w, "", " ", "//\n", "\n")
	var toks []impl.Tok
	for i, text := range w.words {
		if i > 0 && (w.IntN(2) == 0 || isWordByte(w.words[i-1][0]) && isWordByte(text[0])) {
			s += pick(w, " ", "\t", "\n", "\r\n", "  ", "// \"& 01\n", "//\n \n")
		}
		toks = append(toks, tok(kindOfWord(text), text, len(s)))
		s += text
	}
	return s + pick(w, "", " ", "\n", "//", " // &"), toks
}

func kindOfWord(text string) int {
	switch b := text[0]; {
	case b >= 'a' && b <= 'z':
		return impl.DtSmall
	case b >= 'A' && b <= 'Z':
		return impl.DtBig
	case b >= '0' && b <= '9':
		return impl.DtNum
	case b == '"':
		return impl.DtStr
	}
	return impl.DtSign
}

// eachMadeUp calls with sources, always the same ones, that are in all limits.
func eachMadeUp(n int, call func(s string, toks []impl.Tok, p impl.Prog)) {
	random := rand.New(rand.NewPCG(3, 5))
	for made := 0; made < n; {
		w := &writer{Rand: random}
		p := w.program()
		s, toks := w.source()
		tooMany := slices.ContainsFunc(p.Rules, func(r impl.Rule) bool { return len(r.Exps) > impl.MaxExps })
		if tooMany || len(s) > impl.MaxSource {
			continue
		}
		call(s, toks, p)
		made++
	}
}

func TestASourceIsReadAsItWasWritten(t *testing.T) {
	eachMadeUp(4000, func(s string, toks []impl.Tok, p impl.Prog) {
		wantTokens(t, s, toks...)
		wantProg(t, s, p)
	})
}

// isNoToken tells whether a text is blanks and lines that `//` begins alone.
func isNoToken(s string) bool {
	for s != "" {
		if strings.HasPrefix(s, "//") {
			_, s, _ = strings.Cut(s, "\n")
		} else if strings.Contains(" \t\n\r", s[:1]) {
			s = s[1:]
		} else {
			return false
		}
	}
	return true
}

func checkTokens(t *testing.T, s string) {
	t.Helper()
	toks, at, code := impl.Tokens(s)
	if code != impl.SyOK {
		if len(toks) != 0 || at < 0 || at >= len(s) {
			t.Fatalf("Tokens(%q) = %v, %d, %d", s, toks, at, code)
		}
		if _, _, ahead := impl.Tokens(s[:at]); ahead != impl.SyOK {
			t.Fatalf("Tokens(%q) tells the place %d, but what is ahead has the code %d", s, at, ahead)
		}
		return
	}
	end := 0
	for _, x := range toks {
		if x.At < end || x.Text == "" || !strings.HasPrefix(s[x.At:], x.Text) || !isNoToken(s[end:x.At]) || x.Kind != kindOfWord(x.Text) {
			t.Fatalf("Tokens(%q) has %v behind the place %d", s, x, end)
		}
		end = x.At + len(x.Text)
	}
	if at != 0 || !isNoToken(s[end:]) {
		t.Fatalf("Tokens(%q) ends at the place %d, and answers %d", s, end, at)
	}
}

func TestTokensRiseByTheirPlaces(t *testing.T) {
	bytes := "aZ_09 \n\t\"\"//::--!!==<<(),.+*|&\x00\xff"
	random := rand.New(rand.NewPCG(7, 11))
	for range 60000 {
		s := ""
		for range random.IntN(14) {
			i := random.IntN(len(bytes))
			s += bytes[i : i+1]
		}
		checkTokens(t, s)
		toks, at, code := impl.Tokens(s)
		if code != impl.SyOK {
			wantNoProg(t, s, at, code)
		} else if p, place, code := impl.Parse(s); code != impl.SyOK && (place < 0 || place > len(s) || !sameProg(p, impl.Prog{}) || len(toks) == 0) {
			t.Fatalf("Parse(%q) = %v, %d, %d", s, p, place, code)
		}
	}
}

// lists are all lists of a program's places and names, as they lie in memory
// with their spare room.
func lists(p impl.Prog) ([][]int, [][]string) {
	var places [][]int
	var names [][]string
	for _, r := range p.Rules {
		for _, e := range r.Exps {
			places = append(places, e.Kids[:cap(e.Kids)])
		}
		for _, l := range append([]impl.Lit{r.Head}, r.Body...) {
			places = append(places, l.Args[:cap(l.Args)])
		}
	}
	for _, r := range p.Rels {
		names = append(names, r.Types[:cap(r.Types)])
	}
	for _, x := range p.Types {
		for _, c := range x.Cons {
			names = append(names, c.Types[:cap(c.Types)])
		}
	}
	return places, names
}

// shared tells whether one list is written into by way of another one.
func shared[T comparable](all [][]T, mark func(list, place int) T) bool {
	for i, list := range all {
		for j := range list {
			list[j] = mark(i, j)
		}
	}
	for i, list := range all {
		for j := range list {
			if list[j] != mark(i, j) {
				return true
			}
		}
	}
	return false
}

// sharesRules does the same with the lists of exps and of literals.
func sharesRules(list []impl.Rule) bool {
	var texts, names [][]*string
	for _, r := range list {
		var exps, lits []*string
		for i := range r.Exps[:cap(r.Exps)] {
			exps = append(exps, &r.Exps[:cap(r.Exps)][i].Text)
		}
		for i := range r.Body[:cap(r.Body)] {
			lits = append(lits, &r.Body[:cap(r.Body)][i].Name)
		}
		texts, names = append(texts, exps), append(names, lits)
	}
	return sharesTexts(texts) || sharesTexts(names)
}

func sharesTexts(all [][]*string) bool {
	seen := map[*string]bool{}
	for _, text := range slices.Concat(all...) {
		if seen[text] {
			return true
		}
		seen[text] = true
	}
	return false
}

func sharesLists(p impl.Prog) bool {
	places, names := lists(p)
	return sharesRules(p.Rules) ||
		shared(places, func(list, place int) int { return list*1000 + place }) ||
		shared(names, func(list, place int) string { return fmt.Sprint(list, " ", place) })
}

func TestNoTwoListsOfAProgramShareMemory(t *testing.T) {
	eachMadeUp(500, func(s string, toks []impl.Tok, p impl.Prog) {
		first, _, _ := impl.Parse(s)
		second, _, _ := impl.Parse(s)
		if sharesLists(first) {
			t.Fatalf("two lists of Parse(%q) share memory", s)
		}
		if !sameProg(second, p) {
			t.Fatalf("two answers of Parse(%q) share memory", s)
		}
		list, _, _ := impl.Tokens(s)
		clear(list[:cap(list)])
		wantTokens(t, s, toks...)
	})
}
