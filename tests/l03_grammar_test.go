package tests

import (
	"slices"
	"strings"
	"testing"

	"loop.example/g00531/impl"
)

// recogniser goes all ways of the grammar at once over the tokens of a source.
// The farthest place at which any way asked for a token is the first one that
// cannot stand there, if no way goes to the end.
type recogniser struct {
	toks     []impl.Tok
	farthest int
}

// form answers all places at which what it stands for may end, if it begins at
// one of those given.
type form func(r *recogniser, from []int) []int

func unite(a, b []int) []int {
	all := slices.Concat(a, b)
	slices.Sort(all)
	return slices.Compact(all)
}

func one(fits func(impl.Tok) bool) form {
	return func(r *recogniser, from []int) []int {
		var ends []int
		for _, at := range from {
			r.farthest = max(r.farthest, at)
			if at < len(r.toks) && fits(r.toks[at]) {
				ends = append(ends, at+1)
			}
		}
		return ends
	}
}

func kind(k int) form { return one(func(t impl.Tok) bool { return t.Kind == k }) }

func word(text string) form {
	return one(func(t impl.Tok) bool {
		return t.Text == text && (t.Kind == impl.DtSign || t.Kind == impl.DtSmall)
	})
}

func seq(parts ...form) form {
	return func(r *recogniser, from []int) []int {
		for _, part := range parts {
			if len(from) > 0 {
				from = part(r, from)
			}
		}
		return from
	}
}

func either(parts ...form) form {
	return func(r *recogniser, from []int) []int {
		var ends []int
		for _, part := range parts {
			ends = unite(ends, part(r, from))
		}
		return ends
	}
}

func maybe(part form) form {
	return func(r *recogniser, from []int) []int { return unite(from, part(r, from)) }
}

func often(part form) form {
	return func(r *recogniser, from []int) []int {
		ends := from
		for len(from) > 0 {
			from = part(r, from)
			ends = unite(ends, from)
		}
		return ends
	}
}

func listed(sign string, item form) form { return seq(item, often(seq(word(sign), item))) }

// grammar is that of chapter 3, rule by rule.
func grammar() form {
	small, big, num, str := kind(impl.DtSmall), kind(impl.DtBig), kind(impl.DtNum), kind(impl.DtStr)
	var sum form
	exp := func(r *recogniser, from []int) []int { return sum(r, from) }
	bracketed := func(inner form) form { return seq(word("("), inner, word(")")) }
	prim := either(num, seq(word("-"), num), str, small, word("_"), seq(big, maybe(bracketed(listed(",", exp)))), bracketed(exp))
	prod := listed("*", prim)
	sum = seq(prod, often(seq(either(word("+"), word("-")), prod)))
	args := bracketed(maybe(listed(",", exp)))
	atom := seq(small, args)
	sign := either(word("="), word("!="), word("<"), word("<="))
	lit := either(seq(word("!"), atom), atom, seq(exp, sign, exp))
	typ := either(word("number"), word("symbol"), big)
	con := seq(big, maybe(bracketed(listed(",", typ))))
	name := one(func(t impl.Tok) bool { return t.Kind == impl.DtSmall && t.Text != "type" && t.Text != "rel" })
	stmt := either(
		seq(word("type"), big, word("="), listed("|", con), word(".")),
		seq(word("rel"), small, bracketed(maybe(listed(",", typ))), maybe(either(word("input"), word("output"), word("inline"))), word(".")),
		seq(name, args, maybe(seq(word(":-"), listed(",", lit))), word(".")))
	return often(stmt)
}

// formFault is the place that Parse must tell with SyForm, and true; false where
// the source has the form. The tokens are those of the source.
func formFault(program form, toks []impl.Tok, length int) (int, bool) {
	r := &recogniser{toks: toks}
	switch ends := program(r, []int{0}); {
	case slices.Contains(ends, len(toks)):
		return 0, false
	case r.farthest == len(toks):
		return length, true
	}
	return toks[r.farthest].At, true
}

// checkForm holds Parse against the grammar, at a source whose tokens are well.
func checkForm(t *testing.T, program form, s string) {
	t.Helper()
	toks, _, code := impl.Tokens(s)
	if code != impl.SyOK {
		t.Fatalf("Tokens(%q) has the code %d", s, code)
	}
	if at, fault := formFault(program, toks, len(s)); fault {
		wantNoProg(t, s, at, impl.SyForm)
	} else if _, at, code := impl.Parse(s); at != 0 || code != impl.SyOK && code != impl.SyMany {
		t.Errorf("Parse(%q) answers %d, %d, but it has the form", s, at, code)
	}
}

func someWords() []string {
	return []string{"type", "rel", "number", "input", "x", "X", "7", `"s"`, ":-", "!=", "<=", "(", ")", ",", ".", "!", "=", "<", "+", "-", "*", "|", "_"}
}

// eachPhrase calls with all lists of at most n of the words, a blank ahead of
// each, behind the text ahead.
func eachPhrase(ahead string, n int, call func(string)) {
	call(ahead)
	if n == 0 {
		return
	}
	for _, w := range someWords() {
		eachPhrase(ahead+" "+w, n-1, call)
	}
}

func TestParseOfAllShortSources(t *testing.T) {
	program := grammar()
	eachPhrase("", 3, func(s string) { checkForm(t, program, s) })
}

// TestParseOfAllThatComesNext goes on from beginnings that stand for each place
// of the grammar.
func TestParseOfAllThatComesNext(t *testing.T) {
	program := grammar()
	beginnings := []string{
		"type T =", "type T = A |", "type T = A (", "type T = A ( B", "type T = A ( B ,", "type T = A ( B )",
		"rel p", "rel p (", "rel p ( T", "rel p ( T ,", "rel p ( )", "rel p ( ) output", "rel p ( ) .",
		"p", "p (", "p ( 1", "p ( 1 ,", "p ( -", "p ( 1 -", "p ( 1 *", "p ( ( 1", "p ( X (", "p ( X ( 1", "p ( X ( 1 )", "p ( )", "p ( ) .",
		"p ( ) :-", "p ( ) :- x", "p ( ) :- x (", "p ( ) :- x ( )", "p ( ) :- x =", "p ( ) :- x = 1", "p ( ) :- x = y", "p ( ) :- ( x", "p ( ) :- X", "p ( ) :- !", "p ( ) :- ! x", "p ( ) :- ! x ( )", "p ( ) :- x ( ) ,", "p ( ) :- 1 +", "p ( ) :- 1 + x",
	}
	for _, ahead := range beginnings {
		eachPhrase(ahead, 2, func(s string) { checkForm(t, program, s) })
	}
}

// TestParseOfChangedPrograms takes each token of a program away, puts each word
// ahead of it or in its place, and ends the program there.
func TestParseOfChangedPrograms(t *testing.T) {
	program := grammar()
	sources := []string{
		`type L = Nil | C ( number , L ) . rel p ( number , L ) output . p ( x + 1 , C ( x , _ ) ) :- p ( x , l ) , ! q ( ) , l != Nil , x * 2 - 1 <= -3 .`,
		`rel r ( ) . r ( ) . rel s ( symbol ) inline . s ( "a" ) :- ! type ( - 2 * ( 3 - x ) ) , x = Y ( ( 1 ) ) , 1 < 2 .`,
	}
	for _, source := range sources {
		words := strings.Fields(source)
		for i := range words {
			ahead, behind := strings.Join(words[:i], " "), strings.Join(words[i+1:], " ")
			checkForm(t, program, ahead)
			checkForm(t, program, ahead+" "+behind)
			for _, w := range someWords() {
				checkForm(t, program, ahead+" "+w+" "+behind)
				checkForm(t, program, ahead+" "+w+" "+words[i]+" "+behind)
			}
		}
	}
}
