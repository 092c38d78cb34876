package tests

import (
	"strings"
	"testing"

	"loop.example/g00531/impl"
)

func wantGround(t *testing.T, p impl.Prog, rule, code int) {
	t.Helper()
	if gotRule, gotCode := impl.CheckGround(p); gotRule != rule || gotCode != code {
		t.Errorf("CheckGround(%.2000s) = %d, %d, want %d, %d", impl.ProgText(p), gotRule, gotCode, rule, code)
	}
}

// wantGroundCode wants the code of a rule that is typed, as the only one of the
// program and with rules around it that are grounded.
func wantGroundCode(t *testing.T, rule string, code int) {
	t.Helper()
	at, behind := -1, -1
	if code != impl.GrOK {
		at, behind = 0, 2
	}
	alone := parsed(t, declarations+rule)
	wantTypes(t, alone, -1, impl.TyOK)
	wantGround(t, alone, at, code)
	wantGround(t, parsed(t, declarations+"num(1). num(x) :- edge(x, _)."+rule+"sym(\"a\")."), behind, code)
}

func TestProgramsThatAreGrounded(t *testing.T) {
	for _, s := range []string{"", declarations, "rel p().", "rel p(). p().", "type T = A. rel p(T). p(A)."} {
		wantGround(t, parsed(t, s), -1, impl.GrOK)
	}
	wantGround(t, impl.Prog{}, -1, impl.GrOK)
	wantGround(t, impl.Prog{Types: []impl.TypeDecl{}, Rels: []impl.RelDecl{}, Rules: []impl.Rule{}}, -1, impl.GrOK)
}

func TestRulesThatAreGrounded(t *testing.T) {
	for _, s := range []string{
		"none().", "num(1).", "num(1 + 2).", "list(Cons(1, Nil)).", "none() :- none().", "none() :- !none().", "none() :- 1 < 2.", "none() :- !num(1), 1 = 1.",
		"num(x) :- num(x).", "edge(x, y) :- edge(y, x).", "num(x + y) :- edge(x, y).", "list(Cons(x * 2, l)) :- num(x), list(l).", "tree(Node(a, s, Of(l))) :- tree(a), sym(s), list(l).",
		"num(x) :- list(Cons(x, _)).", "tree(b) :- tree(Node(Node(_, _, b), _, _)).", "num(x) :- num(x), !edge(x, 1), x < 2, x != 3.", "num(x) :- x < 2, !num(x), edge(x, x).",
		"num(x) :- num(x), num(x + 1).", "num(x) :- num(x + 1), num(x).", "num(y) :- edge(x + 1, y), num(x).", "num(x) :- num(y), x = y + 1.", "num(x) :- y + 1 = x, num(y).",
		"num(x) :- x = 1.", "num(x) :- 1 + 1 = x.", "list(l) :- l = Cons(1, Nil).", "list(t) :- list(l), Cons(x, t) = l.", "list(t) :- l = Cons(x, t), list(l).", "edge(x, y) :- Cons(x, Cons(y, Nil)) = Cons(1, Cons(2, Nil)).",
		"num(a) :- a = b + c, b = c, c = d * d, edge(d, d).", "none() :- num(x), x = x.", "none() :- num(x), x = x + 1.", "none() :- num(x), x + 1 = x + 2, x * 2 != x, x - 1 < x.",
		"name(x, y) :- many(x, y, _, _, _, _), !many(_, y, _, _, x, _).",
	} {
		wantGroundCode(t, s, impl.GrOK)
	}
}

// TestWhereAnAnyMayStand has it in each place of a LtAtom and a LtNot.
func TestWhereAnAnyMayStand(t *testing.T) {
	for _, lit := range []string{
		"num(_)", "sym(_)", "edge(_, _)", "edge(1, _)", "many(_, _, _, _, _, _)", "list(Cons(_, _))", "list(Cons(_, Nil))", "list(Cons(1, Cons(_, Cons(_, _))))", "tree(Node(_, _, Of(_)))",
		"many(1 + 2, _, Cons(3 * 4, _), Of(Cons(_, Nil)), 5 - 6, _)", "list(Cons(1 + 1, _))",
	} {
		wantGroundCode(t, "none() :- "+lit+".", impl.GrOK)
		wantGroundCode(t, "none() :- !"+lit+".", impl.GrOK)
		wantGroundCode(t, "num(x) :- num(x), !"+lit+", "+lit+", x = 1.", impl.GrOK)
	}
}

// strayAnys are rules with an ExAny where none may stand, and no other fault.
func strayAnys() []string {
	return []string{
		// In the head.
		"num(_).", "edge(1, _).", "list(Cons(_, Nil)).", "list(Cons(1, _)).", "tree(Of(Cons(1, _))).", "num(_ + 1).", "list(Cons(1 - _, Nil)).", "num(_) :- num(_).", "edge(x, _) :- edge(x, _).", "list(Cons(x, _)) :- num(x), list(_).",
		// In a comparison.
		"none() :- _ = 1.", "none() :- 1 = _.", "none() :- _ = _.", "none() :- _ != 1.", "none() :- 1 != _.", "none() :- _ < 1.", "none() :- 1 < _.", "none() :- _ <= 1.", "none() :- 1 <= _.", "none() :- num(x), _ = x.", "none() :- x = _, num(x).",
		"none() :- Cons(_, Nil) = Nil.", "none() :- Nil != Cons(1, _).", "none() :- list(l), l = Cons(1, _).", "list(t) :- list(l), Cons(_, t) = l.", "list(t) :- list(l), l = Cons(_, t).", "none() :- _ + 1 = 2.", "none() :- 1 < 2 * _.", "none() :- Cons(_ + 1, Nil) = Nil.", "num(x) :- x = 1, num(_), _ = x, num(_).",
		// Within a sum, of a LtAtom and of a LtNot.
		"none() :- num(_ + 1).", "none() :- num(1 + _).", "none() :- num(_ - 1).", "none() :- num(2 * _).", "none() :- num(1 + (2 - _)).", "none() :- num((_ * 1) + 1).", "none() :- edge(_, _ + 1).", "none() :- edge(_ + 1, _).", "none() :- list(Cons(_ + 1, _)).", "none() :- list(Cons(1, Cons(1 * _, Nil))).",
		"none() :- !num(_ + 1).", "none() :- !num(1 - _).", "none() :- !edge(_, 3 * _).", "none() :- !list(Cons(_ + 1, _)).", "none() :- num(x), num(x + _).", "num(x) :- edge(x, x * (_ + x)).",
	}
}

// unboundNames are rules with a name that is not bound, and no other fault.
func unboundNames() []string {
	return []string{
		"num(x).", "list(Cons(1, l)).", "num(x + 1).", "edge(x, y) :- num(x).", "edge(y, x) :- num(x).", "num(x) :- num(_).", "num(x) :- none().",
		"num(x) :- !num(x).", "none() :- !num(x).", "num(x) :- num(x), !edge(x, y).", "none() :- !list(Cons(_, l)).", "none() :- x < 1.", "none() :- 1 <= x.", "none() :- x != 1.", "none() :- num(x), x != y.", "none() :- num(x), y < x, y <= x, !edge(y, x).",
		"num(x) :- num(x + 1).", "none() :- num(x * x).", "none() :- num(1 - x), !num(x).", "num(x) :- edge(x + y, y).", "none() :- list(Cons(x + 1, _)).",
		"num(x) :- num(y), y = x + 1.", "num(x) :- num(y), x + 1 = y.", "num(x) :- x = y, y = x.", "num(x) :- x = x.", "num(x) :- x = x + 1.", "num(x) :- x = y + z, num(y).", "num(x) :- num(y), Cons(x + 1, Nil) = Cons(y, Nil).",
		"list(t) :- Cons(x, t) = l.", "num(x) :- list(l), l = Cons(x, Cons(y + 1, Nil)).", "num(a) :- a = b, b = c, c + 1 = d, num(d).", "num(a) :- num(b), a - b = 0.",
	}
}

func TestGrAny(t *testing.T) {
	for _, s := range strayAnys() {
		wantGroundCode(t, s, impl.GrAny)
	}
}

func TestGrVar(t *testing.T) {
	for _, s := range unboundNames() {
		wantGroundCode(t, s, impl.GrVar)
	}
}

// TestANameIsGroundedByWhatItLacked gives each name that is not bound a value.
func TestANameIsGroundedByWhatItLacked(t *testing.T) {
	for _, s := range unboundNames() {
		p := parsed(t, declarations+s)
		text := strings.TrimSuffix(s, ".")
		sign := ", "
		if !strings.Contains(text, ":-") {
			sign = " :- "
		}
		for _, v := range impl.VarTypes(p, 0) {
			rel := map[string]string{"number": "num", "symbol": "sym", "List": "list", "Tree": "tree"}[v.Type]
			text += sign + rel + "(" + v.Name + ")"
			sign = ", "
		}
		wantGroundCode(t, text+".", impl.GrOK)
	}
}

// TestGrTypes has -1, whichever rule has the fault that CheckTypes tells.
func TestGrTypes(t *testing.T) {
	for what, p := range unsoundProgs() {
		if rule, code := impl.CheckGround(p); rule != -1 || code != impl.GrTypes {
			t.Errorf("%s: CheckGround = %d, %d", what, rule, code)
		}
	}
	for _, s := range append(typeFaults(), relFaults()...) {
		wantGround(t, parsed(t, s), -1, impl.GrTypes)
		wantGround(t, parsed(t, declarations+s+"num(x) :- num(x)."), -1, impl.GrTypes)
	}
	for code, list := range literalFaults() {
		for _, lit := range list {
			p := parsed(t, declarations+"num(1). none() :- "+lit+". num(x) :- num(x).")
			if code != impl.TyOK {
				wantGround(t, p, -1, impl.GrTypes)
			} else if lit != "_ = Nil" {
				wantGround(t, p, -1, impl.GrOK)
			} else {
				wantGround(t, p, 1, impl.GrAny)
			}
		}
	}
	for _, p := range []impl.Prog{{Types: make([]impl.TypeDecl, 1000000)}, {Rels: make([]impl.RelDecl, 1000000)}, {Rules: make([]impl.Rule, 1000000)}} {
		if rule, code := impl.CheckGround(p); rule != -1 || code != impl.GrTypes {
			t.Errorf("CheckGround = %d, %d", rule, code)
		}
	}
}

// TestTypesComeAheadOfTheRest puts a fault of types behind, ahead of and into a
// rule that is not grounded.
func TestTypesComeAheadOfTheRest(t *testing.T) {
	for _, s := range append(strayAnys(), unboundNames()...) {
		for _, wrong := range []string{"other().", "num(1, 2).", "list(Foo).", "num(Nil).", "none() :- o1 = o2.", "rel num(number)."} {
			wantGround(t, parsed(t, declarations+s+wrong), -1, impl.GrTypes)
			wantGround(t, parsed(t, declarations+wrong+s), -1, impl.GrTypes)
		}
		text := strings.TrimSuffix(s, ".")
		if strings.Contains(text, ":-") {
			wantGround(t, parsed(t, declarations+text+", 1 = Nil."), -1, impl.GrTypes)
		} else {
			wantGround(t, parsed(t, declarations+text+" :- other()."), -1, impl.GrTypes)
		}
	}
}

// TestTwoCodesInOneRule: GrAny comes first, wherever it stands.
func TestTwoCodesInOneRule(t *testing.T) {
	for _, s := range []string{
		"edge(x, _).", "edge(_, x).", "edge(x, x + _).", "num(x) :- _ = 1.", "num(x) :- x = _.", "num(_) :- x < 1.", "none() :- x < 1, _ < 1.", "none() :- _ < 1, x < 1.", "none() :- x < _.", "none() :- _ != x, 1 < x.",
		"none() :- num(x + _).", "none() :- num(_ + x).", "none() :- !num(x), num(_ + 1).", "none() :- num(_ - 1), !num(x).", "none() :- !edge(x, _ * 2).", "list(t) :- Cons(_, t) = l.",
	} {
		wantGroundCode(t, s, impl.GrAny)
	}
}

// TestFaultsOfTwoRules: the first rule counts, whichever code it has.
func TestFaultsOfTwoRules(t *testing.T) {
	anys, names := strayAnys(), unboundNames()
	for i, stray := range anys {
		name := names[i%len(names)]
		wantGround(t, parsed(t, declarations+stray+name), 0, impl.GrAny)
		wantGround(t, parsed(t, declarations+name+stray), 0, impl.GrVar)
		wantGround(t, parsed(t, declarations+"none()."+name+"none()."+stray), 1, impl.GrVar)
		wantGround(t, parsed(t, declarations+"none(). num(1)."+stray+name+"none()."), 2, impl.GrAny)
		wantGround(t, parsed(t, declarations+stray+anys[(i+1)%len(anys)]), 0, impl.GrAny)
		wantGround(t, parsed(t, declarations+"none()."+name+names[(i+1)%len(names)]), 1, impl.GrVar)
	}
}

// TestEachRuleIsGroundedForItself: a name that is bound in one rule is not in the
// next one.
func TestEachRuleIsGroundedForItself(t *testing.T) {
	wantGround(t, parsed(t, declarations+"num(x) :- edge(x, y). num(x) :- edge(y, x)."), -1, impl.GrOK)
	wantGround(t, parsed(t, declarations+"num(x) :- edge(x, y). num(y) :- num(x)."), 1, impl.GrVar)
	wantGround(t, parsed(t, declarations+"num(y) :- num(x). num(x) :- edge(x, y)."), 0, impl.GrVar)
	wantGround(t, parsed(t, declarations+"none() :- num(_). num(_)."), 1, impl.GrAny)
}

func TestTheNumberOfTheRuleThatIsNotGrounded(t *testing.T) {
	for at := range impl.MaxRules {
		ahead, behind := strings.Repeat("none().", at), strings.Repeat("none().", impl.MaxRules-at-1)
		wantGround(t, parsed(t, declarations+ahead+"num(_)."+behind), at, impl.GrAny)
		wantGround(t, parsed(t, declarations+ahead+"num(x)."+behind), at, impl.GrVar)
	}
	wantGround(t, parsed(t, declarations+strings.Repeat("none().", impl.MaxRules)), -1, impl.GrOK)
}

// TestNamesThatLookLikeOthers: neither a name of a relation nor a word of the
// language is bound by standing elsewhere.
func TestNamesThatLookLikeOthers(t *testing.T) {
	wantGroundCode(t, "num(num) :- edge(num, edge).", impl.GrOK)
	wantGroundCode(t, "num(num) :- edge(1, edge).", impl.GrVar)
	wantGroundCode(t, "num(number) :- edge(number, type), rel = type.", impl.GrOK)
	wantGroundCode(t, "num(number) :- edge(type, type).", impl.GrVar)
	wantGroundCode(t, `num(x) :- name(1, "x").`, impl.GrVar)
	wantGroundCode(t, "num(x) :- edge(x1, xx).", impl.GrVar)
}
