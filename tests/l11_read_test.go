package tests

import (
	"fmt"
	"slices"
	"strings"
	"testing"

	"loop.example/g00531/impl"
)

func wantFactsRead(t *testing.T, p impl.Prog, s string, want impl.Db, line, code int) {
	t.Helper()
	if d, gotLine, got := impl.FactsRead(p, s); got != code || gotLine != line || !sameDb(d, want) {
		t.Errorf("FactsRead(%.300q) = %.500q, %d, %d, want %.500q, %d, %d", s, factWords(p, d), gotLine, got, factWords(p, want), line, code)
	}
}

// wantReadAs wants the facts of a text as dbOf reads them.
func wantReadAs(t *testing.T, p impl.Prog, s, facts string) {
	t.Helper()
	wantFactsRead(t, p, s, dbOf(t, p, facts), 0, impl.FcOK)
}

func wantFault(t *testing.T, p impl.Prog, s string, line, code int) {
	t.Helper()
	wantFactsRead(t, p, s, impl.Db{}, line, code)
}

// wantLineFault wants the code of one line: alone, among others that are right, with
// empty lines around it, and ahead of lines that have other faults.
func wantLineFault(t *testing.T, p impl.Prog, line string, code int) {
	t.Helper()
	wantFault(t, p, lines(line), 1, code)
	wantFault(t, p, lines("num(1).", line), 2, code)
	wantFault(t, p, lines(line, "num(1)."), 1, code)
	wantFault(t, p, lines("", "", "num(1).", "", line, "", "num(2)."), 5, code)
	for _, other := range []string{"num(1)", "other(1).", "num(Nil)."} {
		wantFault(t, p, lines("none().", line, other), 2, code)
	}
	wantFault(t, p, lines(line, line), 1, code)
}

func TestFactsRead(t *testing.T) {
	p := parsed(t, declarations+"num(9).")
	wantReadAs(t, p, "", "")
	wantReadAs(t, p, lines("none()."), "none()")
	wantReadAs(t, p, lines("num(7)."), "num(7)")
	wantReadAs(t, p, lines("num(-1000000).", "num(1000000).", "num(0)."), "num(-1000000) num(0) num(1000000)")
	wantReadAs(t, p, lines("edge(1, 2)."), "edge(1,2)")
	wantReadAs(t, p, lines(`many(1, "a", Cons(0,Nil), Of(Nil), 2, "b").`), `many(1,"a",Cons(0,Nil),Of(Nil),2,"b")`)
	// In any order, of relations and of rows; what stands twice counts once.
	wantReadAs(t, p, lines("edge(2, 1).", "num(10).", "list(Nil).", "edge(1, 2).", "none().", "num(9).", "list(Cons(1,Nil)).", "edge(1, 10).", "edge(1, 9)."),
		"none() num(9) num(10) list(Nil) list(Cons(1,Nil)) edge(1,2) edge(1,9) edge(1,10) edge(2,1)")
	wantReadAs(t, p, lines("num(1).", "num(1).", "none().", "num(2).", "none().", "num(1)."), "none() num(1) num(2)")
	wantReadAs(t, p, lines("tree(Of(Nil)).", "tree(Leaf).", "tree(Of(Nil)).", `tree(Node(Leaf,"",Leaf)).`), `tree(Leaf) tree(Of(Nil)) tree(Node(Leaf,"",Leaf))`)
	wantFactsRead(t, impl.Prog{}, "", impl.Db{}, 0, impl.FcOK)
	wantFactsRead(t, impl.Prog{}, "\n\n", impl.Db{}, 0, impl.FcOK)
	wantFault(t, impl.Prog{}, lines("p()."), 1, impl.FcRel)
}

func TestFactsReadOfWhatStandsInQuotes(t *testing.T) {
	p := parsed(t, declarations)
	d := impl.DbEmpty(p)
	sym, name, tree := placeOf(p, "sym"), placeOf(p, "name"), placeOf(p, "tree")
	var text []string
	for i, s := range []string{`" "`, `"("`, `")"`, `")."`, `","`, `", "`, `"."`, `"1, 2"`, `"), sym("`, `"a).n"`, longestSymbol} {
		d.Rels[sym], _ = impl.RelPut(d.Rels[sym], row(s))
		d.Rels[name], _ = impl.RelPut(d.Rels[name], row(impl.NumText(i), s))
		d.Rels[tree], _ = impl.RelPut(d.Rels[tree], row("Node(Leaf,"+s+",Leaf)"))
		text = append(text, "sym("+s+").", "name("+impl.NumText(i)+", "+s+").", "tree(Node(Leaf,"+s+",Leaf)).")
	}
	wantFactsRead(t, p, lines(text...), d, 0, impl.FcOK)
	six := parsed(t, "rel six(symbol, symbol, symbol, symbol, symbol, symbol).")
	wantFactsRead(t, six, lines(`six("", ", ", ").", "(", " ", ",").`), impl.Db{Rels: []impl.Rel{rel(6, row(`""`, `", "`, `")."`, `"("`, `" "`, `","`))}}, 0, impl.FcOK)
}

func TestEmptyLinesSayNothing(t *testing.T) {
	p := parsed(t, declarations)
	for _, s := range []string{"\n", "\n\n\n", strings.Repeat("\n", impl.MaxFacts)} {
		wantReadAs(t, p, s, "")
	}
	wantReadAs(t, p, "\nnum(1).\n", "num(1)")
	wantReadAs(t, p, "num(1).\n\n", "num(1)")
	wantReadAs(t, p, "\n\nnum(1).\n\n\nnum(2).\n\n\n", "num(1) num(2)")
	wantFault(t, p, "\n\n\nx\n", 4, impl.FcForm)
	wantFault(t, p, "\nnum(1).\n\nx\n\n", 4, impl.FcForm)
	wantFault(t, p, strings.Repeat("\n", impl.MaxFacts-1)+"x", impl.MaxFacts, impl.FcForm)
}

func TestALineThatIsNotEnded(t *testing.T) {
	p := parsed(t, declarations)
	for _, s := range []string{"num(1).", "num(1)", "x", " ", "\r", ".", "other(1).", "num(Nil).", "none()."} {
		wantFault(t, p, s, 1, impl.FcForm)
		wantFault(t, p, "\n"+s, 2, impl.FcForm)
		wantFault(t, p, "num(1).\n\nedge(1, 2).\n"+s, 4, impl.FcForm)
		wantFault(t, p, "other(1).\n"+s, 1, impl.FcRel)
		wantFault(t, p, "num(Nil).\n"+s, 1, impl.FcType)
	}
	wantReadAs(t, p, "num(1).\n", "num(1)") // there is no line behind the last byte 10
	full := strings.Builder{}
	for i := range impl.MaxRows {
		full.WriteString(lines("num(" + impl.NumText(i) + ")."))
	}
	wantFault(t, p, full.String()+"num(400).", impl.MaxRows+1, impl.FcForm)
}

func formFaults() []string {
	return []string{
		// Blanks, and other bytes that a reader may take for some.
		" num(1).", "num (1).", "num( 1).", "num(1 ).", "num(1) .", "num(1). ", "num(1).\r", "num(1)\r.", "\rnum(1).", "\tnum(1).", "num(1).\t", "num(\t1).", " ", "  ", "\r", "\t", "none( ).", "none(\r).",
		"edge(1,2).", "edge(1,  2).", "edge(1 , 2).", "edge(1 ,2).", "edge(1,\t2).", "edge(1,\r2).", "edge( 1, 2).", "edge(1, 2 ).", "edge(1, 2). ", " edge(1, 2).", "edge (1, 2).", "edge(1, 2) .", "edge(1\u00a0, 2).", "edge(1,\u00a02).",
		// The dot, the brackets, the commas.
		"num(1)", "num(1)..", "num(1),", "num(1.)", "num1.", "num.", "num", ".", "num(", "num()1.", "num(1", "num(1.", "num)1(.", "num[1].", "num((1)).", "num(1)).", "num(1).).", "(1).", "().", "()", "(", ")", ").", "num(1)(2).", "num(1)num(2).", "num(1). num(2).", "num(1).num(2).",
		"edge(1, 2", "edge(1, 2)", "edge(1, ).", "edge(, 1).", "edge(, ).", "edge(,).", "edge(1,).", "edge(1, , 2).", "edge(1, 2, ).", "edge(1, 2,).", "edge(1; 2).", "edge(1 2).", "edge(1, 2);", "num(, ).", "none(, ).", "none(,).", "none(())",
		// The name.
		"Num(1).", "_num(1).", "1(1).", "9num(1).", "num-(1).", "nu m(1).", "nüm(1).", "\"num\"(1).", "!num(1).", strings.Repeat("n", impl.MaxName+1) + "(1).", "num\x00(1).",
		// Terms that are none.
		"num(01).", "num(-0).", "num(+1).", "num(1000001).", "num(--1).", "num(-).", "num(x).", "num(_).", "num(1 + 1).", "num(1+1).", "sym(\"a).", "sym(a\").", "sym(a).", "sym('a').", `sym("a"b").`, `sym("\").`, `sym("a\b").`, `sym("ü").`, "sym(\"\t\").", `sym("` + strings.Repeat("s", impl.MaxName+1) + `").`,
		"list(Cons(1, Nil)).", "list(Cons (1,Nil)).", "list(Nil()).", "list(Cons(1,Nil).", "list(Cons(1,Nil))).", "list(cons(1,Nil)).", "list(nil).", `sym(").`, `sym("").").`, `sym("", ).`, `name(1, "a, "b").`,
		"num(" + longTerm(impl.MaxTerm+1) + ").", "edge(1, " + longTerm(impl.MaxTerm+1) + ").", "num(N" + strings.Repeat("a", impl.MaxName) + ").", "num(" + nested(900, "1") + ").", "num(" + strings.Repeat("S(", 1400) + ").",
		// What other languages write.
		"num(1). // one", "// one", "# one", "num(1) :- num(2).", "rel p().", "\x00", "\xff", "num(\xff).", "\ufeffnum(1).",
	}
}

func TestFcForm(t *testing.T) {
	p := parsed(t, declarations)
	for _, line := range formFaults() {
		wantLineFault(t, p, line, impl.FcForm)
	}
	for _, s := range noTerms() {
		if s == "" || len(s) > 1000 {
			continue // none is no fault of the form; a long one has a test of its own
		}
		for _, line := range []string{"num(" + s + ").", "edge(1, " + s + ").", "edge(" + s + ", 1).", "sym(\"a\", " + s + ").", "other(" + s + ")."} {
			wantLineFault(t, p, line, impl.FcForm)
		}
	}
	// The form is looked at ahead of all that comes of the relation.
	for _, line := range []string{"other(1, 02).", "other(1", "num(1, 2, x).", "num(Nil, 01).", "list(Leaf)", "many(1, 2, 3, 4, 5, 6, 7, 8, 09)."} {
		wantLineFault(t, p, line, impl.FcForm)
	}
}

// TestTermsOfFacts: each term is one in a fact.
func TestTermsOfFacts(t *testing.T) {
	p := parsed(t, declarations)
	for _, s := range terms() {
		wantLineFault(t, p, "other("+s+").", impl.FcRel)
		wantLineFault(t, p, "num("+s+", "+s+").", impl.FcRel)
		wantLineFault(t, p, "none("+s+").", impl.FcRel)
		wantLineFault(t, p, "many("+strings.Join(times(7, s), ", ")+").", impl.FcRel)
	}
	for _, s := range constructors() {
		wantLineFault(t, p, "num("+s+").", impl.FcType)
		wantLineFault(t, p, "edge(1, "+s+").", impl.FcType)
	}
	q := parsed(t, "type T = A | Ab(number, T) | S(T). rel p(T). rel q(number, T).")
	most := strings.Repeat("S(", 64) + "Ab(1,A)" + strings.Repeat(")", 64) // 199 bytes
	wantLong := func(s string) {
		d := impl.Db{Rels: []impl.Rel{rel(1, row(s)), rel(2, row("1", s))}}
		wantFactsRead(t, q, lines("p("+s+").", "q(1, "+s+")."), d, 0, impl.FcOK)
	}
	wantLong(most)
	wantLong(strings.Replace(most, "1", "10", 1))
	for _, s := range []string{strings.Replace(most, "1", "100", 1), "S(" + most + ")"} {
		wantFault(t, q, lines("p("+s+")."), 1, impl.FcForm)
		wantFault(t, q, lines("q(1, "+s+")."), 1, impl.FcForm)
	}
}

func TestFcRel(t *testing.T) {
	p := parsed(t, declarations)
	for _, line := range []string{
		"other().", "other(1).", "nums(1).", "nu(1).", "n(1).", "type(1).", "rel().", "input(1).", "number(1).", "symbol(\"a\").", "nUm(1).", "num_(1).", "num1(1).", strings.Repeat("n", impl.MaxName) + "(1).",
		"none(1).", "none(Nil).", "none(1, 2).", "num().", "num(1, 2).", "num(1, 2, 3, 4, 5, 6).", "num(1, 2, 3, 4, 5, 6, 7).", "num(" + strings.Join(times(100, "1"), ", ") + ").", "list().", "list(Nil, Nil).", "edge().", "edge(1).", "edge(1, 2, 3).", "name(1).", `name(1, "a", 2).`,
		"many().", `many(1, "a", Nil, Leaf, 2).`, `many(1, "a", Nil, Leaf, 2, "b", 3).`,
		// Other types matter only where there are as many.
		`num("a", "b").`, "edge(Nil).", "list(1, 2).", "none(Other).",
	} {
		wantLineFault(t, p, line, impl.FcRel)
	}
}

func TestFcType(t *testing.T) {
	p := parsed(t, declarations)
	for _, line := range []string{
		`num("a").`, "num(Nil).", "num(Other).", "sym(1).", "sym(A).", "list(1).", "list(Leaf).", "list(Cons).", "list(Nil(1)).", "list(Cons(1)).", "list(Cons(1,Nil,Nil)).", "list(Cons(Nil,1)).", "list(Cons(1,Cons(2,Leaf))).", `list(Cons("1",Nil)).`,
		"tree(Nil).", "tree(Of(Leaf)).", "tree(Node(Leaf,1,Leaf)).", `edge("1", 2).`, `edge(1, "2").`, `edge("1", "2").`, `name("a", 1).`, "name(1, 2).", `name("a", "b").`,
		`many("1", "a", Nil, Leaf, 2, "b").`, `many(1, 2, Nil, Leaf, 2, "b").`, `many(1, "a", Leaf, Leaf, 2, "b").`, `many(1, "a", Nil, Nil, 2, "b").`, `many(1, "a", Nil, Leaf, "2", "b").`, `many(1, "a", Nil, Leaf, 2, 3).`,
		`many(1, "a", Nil, Of(Cons(Nil,Nil)), 2, "b").`,
	} {
		wantLineFault(t, p, line, impl.FcType)
	}
}

// manyFacts are n facts of num that rise, the last one first.
func manyFacts(n int) []string {
	var list []string
	for i := range n {
		list = append(list, "num("+impl.NumText(i)+").")
	}
	slices.Reverse(list)
	return list
}

func TestFcMany(t *testing.T) {
	p := parsed(t, declarations)
	d := dbOf(t, p, "")
	d.Rels[placeOf(p, "num")] = numbersTo(impl.MaxRows)
	list := manyFacts(impl.MaxRows)
	wantFactsRead(t, p, lines(list...), d, 0, impl.FcOK)
	for _, again := range []string{"num(0).", "num(399).", "num(200)."} {
		wantFactsRead(t, p, lines(append(list, again, again, "")...), d, 0, impl.FcOK)
		wantFactsRead(t, p, lines(append([]string{again}, list...)...), d, 0, impl.FcOK)
	}
	for _, more := range []string{"num(400).", "num(-1).", "num(1000000)."} {
		wantFault(t, p, lines(append(list, more)...), impl.MaxRows+1, impl.FcMany)
		wantFault(t, p, lines(append(list, "num(7).", more, "x")...), impl.MaxRows+2, impl.FcMany)
		wantFault(t, p, lines(append(list, "", more, more)...), impl.MaxRows+2, impl.FcMany)
		wantFault(t, p, lines(append([]string{more}, list...)...), impl.MaxRows+1, impl.FcMany)
		// What is ahead of it is told first, in a line and of lines.
		wantFault(t, p, lines(append(list, "x", more)...), impl.MaxRows+1, impl.FcForm)
		wantFault(t, p, lines(append(list, "num(Nil).", more)...), impl.MaxRows+1, impl.FcType)
		wantFault(t, p, lines(append(list, "num(1, 2).", more)...), impl.MaxRows+1, impl.FcRel)
		wantFault(t, p, lines(append(list, more, "x")...), impl.MaxRows+1, impl.FcMany)
	}
	// Each relation has as many rows as may be.
	with := impl.Db{Rels: slices.Clone(d.Rels)}
	with.Rels[placeOf(p, "none")] = rel(0, row())
	with.Rels[placeOf(p, "edge")] = rel(2, row("1", "2"), row("1", "3"))
	wantFactsRead(t, p, lines(append(list, "edge(1, 3).", "none().", "edge(1, 2).", "none().")...), with, 0, impl.FcOK)
	two := parsed(t, "rel p(number). rel q(number).")
	var both []string
	for i := range impl.MaxRows {
		both = append(both, "q("+impl.NumText(i)+").")
	}
	for i := range 200 {
		both = append(both, "p("+impl.NumText(i)+").")
	}
	wantFactsRead(t, two, lines(both...), impl.Db{Rels: []impl.Rel{numbersTo(200), numbersTo(impl.MaxRows)}}, 0, impl.FcOK)
}

func TestWhichOfTwoFaultsComesFirst(t *testing.T) {
	p := parsed(t, declarations)
	faults := map[int][]string{
		impl.FcForm: {"num(1)", "num(01).", " num(1)."},
		impl.FcRel:  {"other(1).", "num(1, 2).", "none(Leaf)."},
		impl.FcType: {"num(Nil).", `edge(1, "a").`},
	}
	for code, list := range faults {
		for _, line := range list {
			for otherCode, others := range faults {
				for _, other := range others {
					wantFault(t, p, lines(line, other), 1, code)
					wantFault(t, p, lines("num(1).", "", other, line), 3, otherCode)
				}
			}
		}
	}
}

func TestFcLong(t *testing.T) {
	p := parsed(t, declarations)
	for _, s := range []string{strings.Repeat("\n", impl.MaxFacts), lines("num(1).") + strings.Repeat("\n", impl.MaxFacts-8), strings.Repeat(lines("num(11)."), 666) + "\n\n\n\n\n\n"} {
		if _, line, code := impl.FactsRead(p, s); len(s) != impl.MaxFacts || line != 0 || code != impl.FcOK {
			t.Errorf("of %d bytes the answer is %d, %d", len(s), line, code)
		}
		wantFault(t, p, s+"\n", 0, impl.FcLong)
		wantFault(t, p, "x\n"+s, 0, impl.FcLong)
		wantFault(t, p, s+s, 0, impl.FcLong)
	}
	for _, s := range []string{"x", "\n", "num(1).\n", "other(1).\n", "num(Nil).\n", "S(", "\"", "num(", "1"} {
		n := impl.MaxFacts/len(s) + 1
		wantFault(t, p, strings.Repeat(s, n), 0, impl.FcLong)
		if _, _, code := impl.FactsRead(p, strings.Repeat(s, n-1)); code == impl.FcLong {
			t.Errorf("%d times %q is too long", n-1, s)
		}
	}
	for _, s := range []string{"num(" + strings.Repeat("S(", 2990) + ").\n", "num(" + nested(1990, "1") + ").\n", "num(" + strings.Repeat("1", 5990) + ").\n", "num(" + strings.Repeat("1, ", 1990) + ").\n", strings.Repeat("n", 5990) + "(1).\n"} {
		wantFault(t, p, s, 1, impl.FcForm)
	}
	wantFault(t, p, "num("+strings.TrimSuffix(strings.Repeat("1, ", 1990), ", ")+").\n", 1, impl.FcRel)
}

func TestFcProg(t *testing.T) {
	for what, p := range notReady(t) {
		for _, s := range []string{"", "\n", "x", "p().\n", "p(1).\n", "num(1).\n", "other(1).\n", strings.Repeat("\n", impl.MaxFacts), strings.Repeat("\n", impl.MaxFacts+1), strings.Repeat("x", 100000)} {
			if d, line, code := impl.FactsRead(p, s); len(d.Rels) > 0 || line != 0 || code != impl.FcProg {
				t.Errorf("%s: FactsRead(%.20q) = %v, %d, %d", what, s, d, line, code)
			}
		}
	}
	for what, p := range unsoundProgs() {
		if _, line, code := impl.FactsRead(p, ""); line != 0 || code != impl.FcProg {
			t.Errorf("%s: FactsRead of the empty text = %d, %d", what, line, code)
		}
	}
	// The mode of a relation does not matter, nor do the rules of one that is Ready.
	p := parsed(t, "rel a(number) input. rel b(number) output. rel c(number) inline. rel d(number). d(x) :- a(x), !b(x). b(1).")
	wantReadAs(t, p, lines("d(4).", "c(3).", "b(2).", "a(1)."), "a(1) b(2) c(3) d(4)")
}

// TestNamesOfRelations: the longest name, and words that mean something in a program.
func TestNamesOfRelations(t *testing.T) {
	longest := "n" + strings.Repeat("Z", impl.MaxName-3) + "_9"
	p := parsed(t, "rel "+longest+"(). rel type(number). rel rel(symbol). rel input(). rel output(number). rel number(number). rel a(). rel aB(). rel a_(). rel a0().")
	var want impl.Db
	var list []string
	for _, decl := range p.Rels {
		var x impl.Tuple
		for _, name := range decl.Types {
			x.T = append(x.T, map[string]string{"number": "1", "symbol": `"rel"`}[name])
		}
		want.Rels = append(want.Rels, rel(len(x.T), x))
		list = append(list, decl.Name+"("+strings.Join(x.T, ", ")+").")
	}
	wantFactsRead(t, p, lines(list...), want, 0, impl.FcOK)
	wantFactsText(t, p, want, lines(list...))
	for i := range list {
		few := impl.Db{Rels: slices.Clone(impl.DbEmpty(p).Rels)}
		few.Rels[i] = want.Rels[i]
		wantFactsRead(t, p, lines(list[i]), few, 0, impl.FcOK)
		wantFault(t, p, lines(list[i]+"."), 1, impl.FcForm)
	}
	wantFault(t, p, lines(longest+"9()."), 1, impl.FcForm)
	wantFault(t, p, lines(longest[:len(longest)-1]+"()."), 1, impl.FcRel)
}

// TestEachByteInALine: of all bytes put at a place of a line few leave it a fact.
func TestEachByteInALine(t *testing.T) {
	p := parsed(t, "rel p(number, symbol). rel pp(number, symbol).")
	line := `p(1, "a").`
	for at := range len(line) + 1 {
		for b := range 256 {
			s := line[:at] + string([]byte{byte(b)}) + line[at:]
			var want []string
			isDigit := b >= '0' && b <= '9'
			isNameByte := isDigit || b >= 'a' && b <= 'z' || b >= 'A' && b <= 'Z' || b == '_'
			code := impl.FcForm
			switch {
			case at == 0 && b >= 'a' && b <= 'z', at == 1 && isNameByte:
				code = impl.FcRel
				if b == 'p' {
					code, want = impl.FcOK, []string{"1", `"a"`}
				}
			case at == 2 && b >= 'A' && b <= 'Z':
				code = impl.FcType
			case at == 2 && (isDigit && b != '0' || b == '-'), at == 3 && isDigit:
				code, want = impl.FcOK, []string{s[2:4], `"a"`}
			case (at == 6 || at == 7) && b >= 32 && b <= 126 && b != '"' && b != '\\':
				code, want = impl.FcOK, []string{"1", s[5:9]}
			case (at == 0 || at == len(line)) && b == '\n':
				code, want = impl.FcOK, []string{"1", `"a"`}
			}
			d := impl.Db{Rels: []impl.Rel{rel(2), rel(2)}}
			if code == impl.FcOK {
				name := strings.TrimSpace(s[:strings.Index(s, "(")])
				d.Rels[placeOf(p, name)] = rel(2, row(want...))
				wantFactsRead(t, p, s+"\n", d, 0, impl.FcOK)
			} else {
				wantFault(t, p, s+"\n", 1, code)
			}
			if t.Failed() {
				t.Fatal(fmt.Sprint("byte ", b, " at ", at))
			}
		}
	}
}
