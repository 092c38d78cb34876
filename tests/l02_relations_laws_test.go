package tests

import (
	"fmt"
	"slices"
	"testing"

	"loop.example/g00531/impl"
)

// fewRows are seven tuples in their order: each set of them is a relation, and
// the bits of a number tell which of them it has.
func fewRows() []impl.Tuple {
	return []impl.Tuple{row("2", "10"), row("2", `"a"`), row("10", "Nil"), row(`"10"`, "9"), row(`"9"`, "S(9)"), row("Nil", "1"), row("S(9)", "1")}
}

func setOf(bits int) impl.Rel {
	r := rel(2)
	for i, x := range fewRows() {
		if bits>>i&1 == 1 {
			r.Rows = append(r.Rows, x)
		}
	}
	return r
}

func allSets() []impl.Rel {
	var sets []impl.Rel
	for bits := range 1 << len(fewRows()) {
		sets = append(sets, setOf(bits))
	}
	return sets
}

func TestARowThatIsPutIsThereAndAllOthersStay(t *testing.T) {
	for bits, r := range allSets() {
		if !impl.RelOk(r) {
			t.Fatalf("RelOk(%q) is false", r.Rows)
		}
		for i, x := range fewRows() {
			was := bits>>i&1 == 1
			got, put := impl.RelPut(r, x)
			if put == was || !sameRel(got, setOf(bits|1<<i)) || impl.RelHas(r, x) != was || !impl.RelHas(got, x) {
				t.Fatalf("RelPut(%q, %q) = %q, %t", r.Rows, x.T, got.Rows, put)
			}
		}
	}
}

func TestRowsPutInAnyOrderAreInOrder(t *testing.T) {
	list := fewRows()
	for step := 1; step < len(list); step++ { // 7 is prime: each step goes through all rows
		r := rel(2)
		for i := range list {
			var ok bool
			if r, ok = impl.RelPut(r, list[i*step%len(list)]); !ok {
				t.Fatalf("a row is not put: %q", r.Rows)
			}
		}
		if !slices.EqualFunc(r.Rows, list, sameRow) {
			t.Errorf("put with the step %d the rows are %q", step, r.Rows)
		}
	}
}

func TestRelationsGoTogetherAsSetsDo(t *testing.T) {
	sets := allSets()
	for a, x := range sets {
		for b, y := range sets {
			join, ok := impl.RelJoin(x, y)
			if !ok || !sameRel(join, sets[a|b]) {
				t.Fatalf("RelJoin(%q, %q) = %q, %t", x.Rows, y.Rows, join.Rows, ok)
			}
			if less := impl.RelLess(x, y); !sameRel(less, sets[a&^b]) {
				t.Fatalf("RelLess(%q, %q) = %q", x.Rows, y.Rows, less.Rows)
			}
		}
	}
}

func TestRelSeekTellsTheRowsThatBeginSo(t *testing.T) {
	heads := [][]string{nil, {"3"}, {"2", "9"}, {"9"}}
	for _, x := range fewRows() {
		heads = append(heads, x.T[:1], x.T)
	}
	for _, r := range allSets() {
		for _, head := range heads {
			var want []impl.Tuple
			for _, x := range r.Rows {
				if slices.Equal(x.T[:len(head)], head) {
					want = append(want, x)
				}
			}
			if got := impl.RelSeek(r, head); !slices.EqualFunc(got, want, sameRow) {
				t.Fatalf("RelSeek(%q, %q) = %q", r.Rows, head, got)
			}
		}
	}
}

// roomyTexts has the texts with one more behind them, in its spare room.
func roomyTexts(texts []string, behind string) []string {
	return append(slices.Clone(texts), behind)[:len(texts)]
}

// roomyRel has the rows of r with another row in the spare room behind them, and
// each row has a term in its own.
func roomyRel(r impl.Rel, behind impl.Tuple) impl.Rel {
	out := impl.Rel{Arity: r.Arity}
	for _, x := range r.Rows {
		out.Rows = append(out.Rows, impl.Tuple{T: roomyTexts(x.T, "7")})
	}
	out.Rows = append(out.Rows, behind)[:len(r.Rows)]
	return out
}

// whole tells all that is in a relation, its spare room too.
func whole(r impl.Rel) string {
	s := fmt.Sprint(r.Arity, len(r.Rows))
	for _, x := range r.Rows[:cap(r.Rows)] {
		s += fmt.Sprintf(" %d %q", len(x.T), x.T[:cap(x.T)])
	}
	return s
}

// spoil writes into all of an answer, with its spare room, and is false where
// one list of it was written into by way of another.
func spoil(rows []impl.Tuple) bool {
	rows = rows[:cap(rows)]
	for i, x := range rows {
		texts := x.T[:cap(x.T)]
		for j := range texts {
			texts[j] = fmt.Sprint("spoilt ", i, " ", j)
		}
	}
	for i, x := range rows {
		for j, text := range x.T[:cap(x.T)] {
			if text != fmt.Sprint("spoilt ", i, " ", j) {
				return false
			}
		}
		rows[i] = row("spoilt")
	}
	return true
}

// oneListForAll is an argument whose rows overlap in one list.
func oneListForAll() impl.Rel {
	one := []string{"5", "6", "5", "6"}
	return rel(2, impl.Tuple{T: one[0:2]}, impl.Tuple{T: one[1:3]})
}

func TestRelationsAreNotChangedNorShared(t *testing.T) {
	a := roomyRel(rel(2, row("1", "1"), row("1", "2"), row("3", "1")), row("4", "1"))
	b := roomyRel(rel(2, row("1", "2"), row("2", "2")), row("4", "1"))
	there := impl.Tuple{T: roomyTexts([]string{"1", "2"}, "7")}
	fresh := impl.Tuple{T: roomyTexts([]string{"2", "9"}, "7")}
	head := roomyTexts([]string{"1"}, "1")
	shared := oneListForAll()
	told := func() string {
		return fmt.Sprintf("%s %s %s %q %q %q", whole(a), whole(b), whole(shared), there.T[:cap(there.T)], fresh.T[:cap(fresh.T)], head[:cap(head)])
	}
	ahead := told()
	calls := []func() []impl.Tuple{
		func() []impl.Tuple { r, _ := impl.RelPut(a, fresh); return r.Rows },
		func() []impl.Tuple { r, _ := impl.RelPut(a, there); return r.Rows },
		func() []impl.Tuple { r, _ := impl.RelPut(rel(2), fresh); return r.Rows },
		func() []impl.Tuple { r, _ := impl.RelPut(shared, fresh); return r.Rows },
		func() []impl.Tuple { r, _ := impl.RelPut(shared, shared.Rows[0]); return r.Rows },
		func() []impl.Tuple { r, _ := impl.RelJoin(a, b); return r.Rows },
		func() []impl.Tuple { r, _ := impl.RelJoin(a, a); return r.Rows },
		func() []impl.Tuple { r, _ := impl.RelJoin(a, rel(2)); return r.Rows },
		func() []impl.Tuple { r, _ := impl.RelJoin(rel(2), b); return r.Rows },
		func() []impl.Tuple { r, _ := impl.RelJoin(shared, shared); return r.Rows },
		func() []impl.Tuple { return impl.RelLess(a, b).Rows },
		func() []impl.Tuple { return impl.RelLess(a, rel(2)).Rows },
		func() []impl.Tuple { return impl.RelLess(shared, b).Rows },
		func() []impl.Tuple { return impl.RelSeek(a, head) },
		func() []impl.Tuple { return impl.RelSeek(a, nil) },
		func() []impl.Tuple { return impl.RelSeek(shared, nil) },
		func() []impl.Tuple { impl.RelOk(a); impl.RelHas(a, there); impl.RelHas(a, fresh); return nil },
		func() []impl.Tuple { impl.TupleOk(there); impl.TupleCmp(there, fresh); return nil },
	}
	for i, call := range calls {
		first := call()
		kept := fmt.Sprintf("%q", first)
		if i < len(calls)-2 && len(first) == 0 {
			t.Errorf("call %d answers no rows", i)
		}
		if again := call(); !spoil(again) {
			t.Errorf("lists of one answer of call %d share memory", i)
		}
		if fmt.Sprintf("%q", first) != kept {
			t.Errorf("two answers of call %d share memory", i)
		}
		if now := told(); now != ahead {
			t.Fatalf("call %d changes its arguments from\n%s to\n%s", i, ahead, now)
		}
	}
}

func TestWhatLiesBehindALengthIsNotRead(t *testing.T) {
	behind := row("4", "1")
	a := roomyRel(rel(2, row("1", "1"), row("3", "1")), behind)
	b := roomyRel(rel(2, row("3", "1")), behind)
	if impl.RelHas(a, behind) {
		t.Error("RelHas has the row behind the length")
	}
	if got := impl.RelSeek(a, []string{"4"}); len(got) != 0 {
		t.Errorf("RelSeek answers %q", got)
	}
	if got, ok := impl.RelPut(a, behind); !ok || len(got.Rows) != 3 {
		t.Errorf("RelPut answers %q, %t", got.Rows, ok)
	}
	if got := impl.RelLess(a, b); !sameRel(got, rel(2, row("1", "1"))) {
		t.Errorf("RelLess answers %q", got.Rows)
	}
	if got, ok := impl.RelJoin(a, b); !ok || !sameRel(got, a) {
		t.Errorf("RelJoin answers %q, %t", got.Rows, ok)
	}
	if got := impl.RelSeek(a, roomyTexts([]string{"1"}, "2")); len(got) != 1 {
		t.Errorf("RelSeek answers %q", got)
	}
	if bad := roomyRel(rel(1, row("1")), row("x")); !impl.RelOk(bad) {
		t.Error("RelOk looks behind the length")
	}
	full := manyRows(impl.MaxRows + 5)
	full.Rows = full.Rows[:impl.MaxRows]
	if !impl.RelOk(full) || !impl.TupleOk(impl.Tuple{T: roomyTexts([]string{"1", "2", "3", "4", "5", "6"}, "x")}) {
		t.Error("what lies behind a length counts")
	}
	if got := impl.TupleCmp(impl.Tuple{T: roomyTexts([]string{"1"}, "1")}, impl.Tuple{T: roomyTexts([]string{"1"}, "2")}); got != 0 {
		t.Errorf("TupleCmp looks behind the length: %d", got)
	}
}

// TestAnswersHaveNothingBehindTheirLength asks that rows left out of an answer
// are not in its spare room.
func TestAnswersHaveNothingBehindTheirLength(t *testing.T) {
	full := manyRows(impl.MaxRows)
	for _, rows := range [][]impl.Tuple{impl.RelLess(full, manyRows(397)).Rows, impl.RelSeek(full, []string{"3"}), impl.RelLess(full, full).Rows} {
		for _, x := range rows[len(rows):cap(rows)] {
			if x.T != nil {
				t.Errorf("%q lies behind the length of an answer", x.T)
			}
		}
	}
}
