package tests

import (
	"strings"
	"testing"

	"loop.example/g00531/impl"
)

// In each source the mark stands ahead of the first token that cannot stand
// there, or behind all of it, where that is the end.
func noStatements() []string {
	return []string{
		"@.", "@)", "@,", "@:- q().", "@1.", `@"a".`, "@X(1).", "@_.", "@! p().", "@- 1.", "@(p()).", "@= 1.", "@|",
		"  // a\n @1", "p().@.", "p(). @Q", "rel p(). type T = A. p(). @)",
		"p@", "p  @", "p // x(1).@", "number@", "p@.", "p @:- q().", "x @= 1.", "p @q().", "p @P(1).", "p @p(1).",
		"p()@", "p() @= 1.", "p()@, q().", "p() @q().", "p() @p().", "p() @- q().", "p() @input.", "p()@(1).", "p() @!= 1.", "p() @| q().", "p()@).",
		"p(1)@", "p(1)  @", "p(1) // .@", "p(1)\n\n@", "p() :- q(). p()@",
		"p(@", "p(@.", "p(@,1).", "p(1@", "p(1@.", "p(1 @2).", "p(1,@", "p(1,@).", "p(1,@,2).", "p(1 @:- q().", "p(1 @= 1).", "p(1 @!= 1).", "p(@!q()).", "p(x@(1)).", "p(type@(1)).", "p(1 @| 2).", "p(1 @< 2).",
	}
}

func noDeclarations() []string {
	return []string{
		"type@", "type @.", "type@(x).", "type @t = A.", "type @number = A.", "type @type T = A.", "type @1 = A.", `type @"T" = A.`,
		"type T@", "type T@.", "type T @A.", "type T @:- A.", "type T @| A.", "type T@(A).", "type T @!= A.",
		"type T =@", "type T = @.", "type T = @number.", "type T = @symbol.", "type T = @a.", "type T = @1.", "type T = @(A).", "type T = @| A.", "type T = @= A.", "type T = @_.",
		"type T = A@", "type T = A @B.", "type T = A @, B.", "type T = A @= B.", "type T = A @:- B.", "type T = A @input.", "type T = A @type U = B.",
		"type T = A |@", "type T = A | @.", "type T = A | @| B.", "type T = A | @b.", "type T = A | B@",
		"type T = A(@", "type T = A(@).", "type T = A(@,B).", "type T = A(@x).", "type T = A(@type).", "type T = A(@1).", "type T = A(@_).", "type T = A(@(B)).",
		"type T = A(B@", "type T = A(B@.", "type T = A(B @C).", "type T = A(B @| C).", "type T = A(B@(C)).", "type T = A(number@(C)).", "type T = A(B,@", "type T = A(B,@).", "type T = A(B,@,C).", "type T = A(B)@", "type T = A(B)@(C).", "type T = A(B) @input.",
		"rel@", "rel @.", "rel@(number).", "rel @P(number).", "rel @1(number).", `rel @"p"(number).`, "rel @_().",
		"rel p@", "rel p@.", "rel p @q().", "rel p @input.", "rel p @= q().",
		"rel p(@", "rel p(@.", "rel p(@,T).", "rel p(@x).", "rel p(@1).", "rel p(@_).", "rel p(@input).", "rel p(@(T)).", `rel p(@"T").`,
		"rel p(T@", "rel p(T@.", "rel p(T @symbol).", "rel p(T @| T).", "rel p(T@(T)).", "rel p(number@(1)).", "rel p(T,@", "rel p(T,@).", "rel p(T,@,T).", "rel p(T @input).",
		"rel p()@", "rel p() @plain.", "rel p() @Input.", "rel p() @type T = A.", "rel p() @:- q().", "rel p() @, q().", "rel p()@(T).", "rel p() @= 1.", "rel p()@).",
		"rel p() input@", "rel p() input @output.", "rel p() input @input.", "rel p() inline@(1).", "rel p() output @:- q().",
	}
}

func noLiterals() []string {
	return []string{
		"p() :-@", "p() :- @.", "p() :- @, q().", "p() :- @).", "p() :- @:- q().", "p() :- @= 1.", "p() :- @!= 1.", "p() :- @* 1 = 1.", "p() :- @+ 1 = 1.", "p() :- @| q().",
		"p() :- q()@", "p() :- q() @q().", "p() :- q() @= 1.", "p() :- q() @+ 1 = 2.", "p() :- q() @:- q().", "p() :- q() @| q().", "p() :- q()@).", "p() :- q() @!q().", "p() :- q()@(1).",
		"p() :- q(),@", "p() :- q(), @.", "p() :- q(), @, q().", "p() :- q(@", "p() :- q(1@", "p() :- q(1@.", "p() :- q(1,@).", "p() :- q(r@()).", "p() :- q(x @= 1).", "p() :- type@.", "p() :- type @T = A.", "p() :- rel @p().",
		"p(x) :- x@", "p(x) :- x@.", "p(x) :- x @, q().", "p(x) :- x @x.", "p(x) :- x @:- y.", "p(x) :- x @! = 1.", "p(x) :- x @) = 1.", "p(x) :- x @| 1.", "p(x) :- x @_.",
		"p(x) :- x + 1@.", "p(x) :- 1@.", `p(x) :- "a"@.`, "p(x) :- _@.", "p(x) :- -1@.", "p(x) :- Nil@.", "p(x) :- X(1)@.", "p(x) :- (x)@.", "p(x) :- (x)@(1).", "p(x) :- (x@.", "p(x) :- (x @= 1).", "p(x) :- (q@(1)).", "p(x) :- (@!q(1)).", "p(x) :- 1 + x@(1) = 2.",
		"p() :- x =@", "p() :- x = @.", "p() :- x = @, q().", "p() :- x = @= 1.", "p() :- x <= @< 1.", "p() :- x = @!q().", "p() :- x = @).",
		"p() :- x = 1@", "p() :- x = 1 @= 1.", "p() :- x < 1 @< 2.", "p() :- x = y@(1).", "p() :- x = 1 @q().", "p() :- x = 1 @:- q().",
		"p() :- !@", "p() :- !@.", "p() :- !@!q().", "p() :- !@Q(1).", "p() :- !@1 = 1.", "p() :- !@(q()).", "p() :- !@_.", "p() :- !x@", "p() :- !x @= 1.", "p() :- !x@.", "p() :- !q@, q().", "p() :- !q(@,", "p() :- !q() @= 1.", "p() :- !q()@",
	}
}

func noExps() []string {
	return []string{
		"p(-@", "p(-@).", "p(-@x).", "p(-@-1).", "p(-@(1)).", "p(-@X).", `p(-@"a").`, "p(-@_).", "p(1 - -@-1).",
		"p(1 +@", "p(1 + @).", "p(1 + @+ 1).", "p(1 - @+ 1).", "p(1 * @* 1).", "p(1 * @).", "p(1 * -@x).", "p(@* 1).", "p(@+ 1).", "p(1 + @, 1).",
		"p((@)).", "p((@", "p((1@", "p((1@,2)).", "p((1@.", "p((1)@(1)).", "p(((1)@.", "p(1)@).",
		"p(X(@)).", "p(X(@", "p(X(1@", "p(X(1@.", "p(X(1,@)).", "p(X(1,@,", "p(X(1 @2)).", "p(X @X).", "p(X(1)@(1)).", "p(X(x@(1))).", "p(X(1 @= 1)).",
		"p(_@x).", "p(x @_).", "p(1@x).", `p("a"@"b").`, "p(1 @1).", "p(x @y).", "p(_@(1)).", "p(1@(1)).",
	}
}

func TestParseTellsTheFirstTokenThatCannotStandThere(t *testing.T) {
	for _, group := range [][]string{noStatements(), noDeclarations(), noLiterals(), noExps()} {
		for _, source := range group {
			s, at := marked(t, source)
			wantNoProg(t, s, at, impl.SyForm)
			ahead := "type T = A. rel p(T) input.\np(A). "
			wantNoProg(t, ahead+s, len(ahead)+at, impl.SyForm)
			if at < len(s) {
				wantNoProg(t, s+" p( p(", at, impl.SyForm)
			} else if !strings.Contains(s, "//") {
				wantNoProg(t, s+" \n//\n ", len(s)+6, impl.SyForm)
			}
		}
	}
}

func TestAFaultOfTokensComesAheadOfOneOfTheForm(t *testing.T) {
	cases := []struct {
		source string
		code   int
	}{
		{"p(@& ) ) p", impl.SyChar}, {"p) ) @& p", impl.SyChar}, {") @:", impl.SyChar}, {"p()@;", impl.SyChar}, {") @n23456789012345678901", impl.SyChar},
		{"p(@01) )", impl.SyNumber}, {") p(@01).", impl.SyNumber}, {"p( @1000001", impl.SyNumber}, {"type rel @00", impl.SyNumber},
		{"p(@\"a).", impl.SyString}, {"p) p(@\"a).", impl.SyString}, {") @\"a\nb\"", impl.SyString}, {"type @\"", impl.SyString},
		{strings.Repeat("p().", impl.MaxRules+1) + "@&", impl.SyChar}, {"p(1,2,3,4,5,6,7).@00", impl.SyNumber},
	}
	for _, c := range cases {
		s, at := marked(t, c.source)
		wantNoProg(t, s, at, c.code)
	}
	wantNoProg(t, ")"+strings.Repeat(" ", impl.MaxSource), 0, impl.SyLong)
	wantNoProg(t, " &"+strings.Repeat(" ", impl.MaxSource), 0, impl.SyLong)
}

func TestParseOfTheLongestSource(t *testing.T) {
	fact := "p(1)."
	want := rules(rule([]impl.Exp{term("1")}, atom("p", 0)))
	blanks := strings.Repeat(" ", impl.MaxSource-len(fact))
	wantProg(t, fact+blanks, want)
	wantProg(t, blanks+fact, want)
	wantProg(t, fact+"//"+blanks[2:], want)
	wantNoProg(t, fact+blanks+" ", 0, impl.SyLong)
	wantNoProg(t, fact+"//"+blanks, 0, impl.SyLong)
	wantNoProg(t, "p(1)"+blanks+" ", impl.MaxSource, impl.SyForm)
	wantNoProg(t, "p(1)"+blanks+"  ", 0, impl.SyLong)
}

func TestParseOfDeepSources(t *testing.T) {
	depth := (impl.MaxSource - len("p(1).")) / 2
	brackets := "p(" + strings.Repeat("(", depth) + "1" + strings.Repeat(")", depth) + ")."
	wantProg(t, brackets, rules(rule([]impl.Exp{term("1")}, atom("p", 0))))
	wantNoProg(t, strings.TrimSuffix(brackets, ")."), len(brackets)-2, impl.SyForm)
	wantNoProg(t, "p"+strings.Repeat("(", impl.MaxSource-1), impl.MaxSource, impl.SyForm)
	wantNoProg(t, "p("+strings.Repeat("X(", 1499), impl.MaxSource, impl.SyForm)
	wantNoProg(t, "p("+strings.Repeat("-", impl.MaxSource-2), 3, impl.SyForm)
	wantNoProg(t, "p("+nested(900, "1")+").", 0, impl.SyMany)
	wantNoProg(t, "p("+strings.Repeat("1+", 1400)+"1).", 0, impl.SyMany)
}

// repeated is a text n times with a sign between.
func repeated(text string, n int, sign string) string {
	return strings.TrimSuffix(strings.Repeat(text+sign, n), sign)
}

func TestEachCountIsMetExactly(t *testing.T) {
	cases := []struct {
		what string
		most int
		of   func(n int) string
	}{
		{"types", impl.MaxTypes, func(n int) string { return strings.Repeat("type T = A. ", n) }},
		{"relations", impl.MaxRels, func(n int) string { return strings.Repeat("rel p(). ", n) }},
		{"facts", impl.MaxRules, func(n int) string { return strings.Repeat("p(). ", n) }},
		{"rules", impl.MaxRules, func(n int) string { return strings.Repeat("p() :- q(). ", n) }},
		{"constructors of a type", impl.MaxBody, func(n int) string { return "type T = " + repeated("A", n, "|") + "." }},
		{"constructors of a later type", impl.MaxBody, func(n int) string { return "type T = A. type U = " + repeated("A(T)", n, "|") + ". type V = B." }},
		{"types of a constructor", impl.MaxArity, func(n int) string { return "type T = A(" + repeated("number", n, ",") + ")." }},
		{"types of a later constructor", impl.MaxArity, func(n int) string { return "type T = A | B(" + repeated("T", n, ",") + ") | C." }},
		{"types of a relation", impl.MaxArity, func(n int) string { return "rel p(" + repeated("symbol", n, ",") + ")." }},
		{"types of a later relation", impl.MaxArity, func(n int) string { return "rel p(). rel q(" + repeated("T", n, ",") + ") output. rel r()." }},
		{"exps of a fact", impl.MaxArity, func(n int) string { return "p(" + repeated("1", n, ",") + ")." }},
		{"exps of a head", impl.MaxArity, func(n int) string { return "p(" + repeated("x", n, ",") + ") :- q(x)." }},
		{"exps of an atom", impl.MaxArity, func(n int) string { return "p() :- q(), q(" + repeated("_", n, ",") + "), q()." }},
		{"exps of a negated atom", impl.MaxArity, func(n int) string { return "p() :- q(), !q(" + repeated("_", n, ",") + "), q()." }},
		{"exps of a constructor", impl.MaxArity, func(n int) string { return "p(A(" + repeated("1", n, ",") + "))." }},
		{"exps of a constructor within", impl.MaxArity, func(n int) string { return "p() :- 1 = 1 + A(B(" + repeated("x", n, ",") + "))." }},
		{"literals of a rule", impl.MaxBody, func(n int) string { return "p() :- " + repeated("q()", n, ",") + "." }},
		{"literals of kinds", impl.MaxBody, func(n int) string { return "p() :- !q(), 1 = 1, " + repeated("q()", n-2, ",") + "." }},
		{"exps of a rule", impl.MaxExps, func(n int) string {
			return "p(" + repeated("1", n%6, ",") + ") :- " + repeated("q(1,x,_,A,\"\",-1)", n/6, ",") + "."
		}},
		{"exps of a sum", impl.MaxExps, func(n int) string { return "p(" + repeated("1", 2-n%2, ",") + strings.Repeat("+1", (n-1)/2) + ")." }},
		{"exps one within another", impl.MaxExps, func(n int) string { return "q(). p(" + nested(n-1, "1") + "). q()." }},
	}
	for _, c := range cases {
		for _, n := range []int{c.most - 1, c.most} {
			if _, at, code := impl.Parse(c.of(n)); code != impl.SyOK || at != 0 {
				t.Errorf("%s: Parse of %d answers %d, %d", c.what, n, at, code)
			}
		}
		for _, n := range []int{c.most + 1, c.most + 2} {
			s := c.of(n)
			wantNoProg(t, s, 0, impl.SyMany)
			wantNoProg(t, "p(1)."+s+"rel q().", 0, impl.SyMany)
			wantNoProg(t, s+")", len(s), impl.SyForm)
			wantNoProg(t, s+"p", len(s)+1, impl.SyForm)
			wantNoProg(t, s+"&", len(s), impl.SyChar)
			wantNoProg(t, "p) "+s, 1, impl.SyForm)
		}
	}
}

func TestCountsOfAllKindsAreMetTogether(t *testing.T) {
	types := "type T = " + repeated("A", impl.MaxBody, "|") + "."
	rels := "rel p(" + repeated("T", impl.MaxArity, ",") + ")."
	full := "p() :- " + repeated("q(1,1,1,1,1)", impl.MaxBody, ",") + "."
	s := strings.Repeat(types, impl.MaxTypes) + strings.Repeat(rels, impl.MaxRels) + strings.Repeat("p().", impl.MaxRules-1) + full
	p, at, code := impl.Parse(s)
	if code != impl.SyOK || at != 0 || len(p.Types) != impl.MaxTypes || len(p.Rels) != impl.MaxRels || len(p.Rules) != impl.MaxRules || len(p.Rules[impl.MaxRules-1].Exps) != impl.MaxExps {
		t.Errorf("Parse of %d bytes answers %d, %d", len(s), at, code)
	}
}
