package tests

import (
	"slices"
	"testing"

	"loop.example/g00531/impl"
)

// signs has a byte of each sort that the forms of a term tell apart.
const signs = `Ab10-"(),`

// eachText calls with each text of at most n of the signs.
func eachText(n int, call func(string)) {
	texts := []string{""}
	for ; n >= 0; n-- {
		var longer []string
		for _, s := range texts {
			call(s)
			for i := range len(signs) {
				longer = append(longer, s+signs[i:i+1])
			}
		}
		texts = longer
	}
}

// shortTerms are all terms of at most n bytes made of the signs, with their
// kinds. They are built from the document's forms, not read, so that they can
// be held against what the program reads.
func shortTerms(n int) map[string]int {
	kinds := map[string]int{}
	names := textsOf("A", `Ab10`, n)
	for _, s := range textsOf(`"`, `Ab10-(),`, n-1) {
		kinds[s+`"`] = impl.TkSym
	}
	for _, s := range textsOf("1", "10", n) {
		kinds[s] = impl.TkNum
		if len(s) < n {
			kinds["-"+s] = impl.TkNum
		}
	}
	kinds["0"] = impl.TkNum
	for _, s := range names {
		kinds[s] = impl.TkCon
	}
	for grown := true; grown; {
		grown = false
		for _, list := range listsOf(kinds, n-3) {
			for _, name := range names {
				s := name + "(" + list + ")"
				if len(s) <= n && kinds[s] == impl.TkNone {
					kinds[s] = impl.TkCon
					grown = true
				}
			}
		}
	}
	return kinds
}

// textsOf are the texts of at most n bytes that begin with first and go on with
// bytes of more.
func textsOf(first, more string, n int) []string {
	texts := []string{first}
	for i := 0; i < len(texts); i++ {
		if len(texts[i]) < n {
			for j := range len(more) {
				texts = append(texts, texts[i]+more[j:j+1])
			}
		}
	}
	return texts
}

// listsOf are the texts of at most n bytes of one or more of the terms with `,`
// between.
func listsOf(kinds map[string]int, n int) []string {
	var fit []string
	for s := range kinds {
		if len(s) <= n {
			fit = append(fit, s)
		}
	}
	lists := slices.Clone(fit)
	for i := 0; i < len(lists); i++ {
		for _, s := range fit {
			if len(lists[i])+1+len(s) <= n {
				lists = append(lists, lists[i]+","+s)
			}
		}
	}
	return lists
}

func TestTermKindOfAllShortTexts(t *testing.T) {
	const longest = 6
	kinds := shortTerms(longest)
	seen := 0
	eachText(longest, func(s string) {
		if got := impl.TermKind(s); got != kinds[s] {
			t.Errorf("TermKind(%q) = %d, want %d", s, got, kinds[s])
		}
		if kinds[s] != impl.TkNone {
			seen++
		}
	})
	if seen != len(kinds) || seen < 1000 {
		t.Errorf("%d of %d terms were seen", seen, len(kinds))
	}
}

// someTerms are enough terms for laws that are asked of two or three of them.
func someTerms() []string {
	list := slices.Concat(terms(), risingTerms())
	for s := range shortTerms(4) {
		list = append(list, s)
	}
	slices.Sort(list)
	return slices.Compact(list)
}

func TestATermIsMadeOfItsParts(t *testing.T) {
	for _, s := range someTerms() {
		name, args := impl.TermParts(s)
		if impl.TermKind(s) != impl.TkCon {
			if name != s || len(args) != 0 {
				t.Errorf("TermParts(%q) = %q, %q", s, name, args)
			}
			continue
		}
		if made, ok := impl.TermMake(name, args); !ok || made != s {
			t.Errorf("TermMake of the parts of %q is %q, %t", s, made, ok)
		}
	}
}

func TestWhatIsMadeHasItsParts(t *testing.T) {
	list := someTerms()
	for i, s := range list {
		args := []string{s, list[(i*7+3)%len(list)], list[(i*13+5)%len(list)]}
		made, ok := impl.TermMake("Three", args)
		if fits := len("Three(,,)")+len(args[0])+len(args[1])+len(args[2]) <= impl.MaxTerm; ok != fits {
			t.Errorf("TermMake of %q is %t, want %t", args, ok, fits)
		}
		if !ok {
			continue
		}
		if name, parts := impl.TermParts(made); name != "Three" || !slices.Equal(parts, args) {
			t.Errorf("TermParts(%q) = %q, %q", made, name, parts)
		}
		for _, arg := range args {
			if !impl.Inside(arg, made) || impl.Inside(made, arg) {
				t.Errorf("%q is not told as inside %q", arg, made)
			}
		}
	}
}

func TestATermIsGreaterThanWhatIsInside(t *testing.T) {
	list := someTerms()
	for _, b := range list {
		_, args := impl.TermParts(b)
		size := 1
		for _, arg := range args {
			size += impl.TermSize(arg)
		}
		if impl.TermSize(b) != size {
			t.Errorf("TermSize(%q) = %d, want %d", b, impl.TermSize(b), size)
		}
		for _, a := range list {
			want := slices.ContainsFunc(args, func(arg string) bool { return arg == a || impl.Inside(a, arg) })
			if got := impl.Inside(a, b); got != want {
				t.Errorf("Inside(%q, %q) = %t, want %t", a, b, got, want)
			}
			if want && impl.TermSize(a) >= impl.TermSize(b) {
				t.Errorf("%q is inside %q and has the size %d", a, b, impl.TermSize(a))
			}
		}
	}
}

// TestTermsAreInOneOrder sorts the terms by TermCmp; where each pair agrees with
// the places in the sorted list, TermCmp is an order of all terms.
func TestTermsAreInOneOrder(t *testing.T) {
	list := someTerms()
	slices.SortFunc(list, impl.TermCmp)
	for i, a := range list {
		for j, b := range list {
			want := 0
			if i < j {
				want = -1
			} else if i > j {
				want = 1
			}
			if got := impl.TermCmp(a, b); got != want {
				t.Fatalf("TermCmp(%q, %q) = %d, want %d", a, b, got, want)
			}
		}
	}
}

func TestEachNumberIsGotFromItsTerm(t *testing.T) {
	last := ""
	for n := -impl.MaxNum; n <= impl.MaxNum; n += 997 {
		s := impl.NumTerm(n)
		if got, ok := impl.TermNum(s); !ok || got != n {
			t.Fatalf("TermNum(NumTerm(%d)) = %d, %t", n, got, ok)
		}
		if last != "" && impl.TermCmp(last, s) != -1 {
			t.Fatalf("%q does not come ahead of %q", last, s)
		}
		last = s
	}
}
