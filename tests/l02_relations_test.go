package tests

import (
	"math"
	"slices"
	"testing"

	"loop.example/g00531/impl"
)

func row(texts ...string) impl.Tuple { return impl.Tuple{T: texts} }

func rel(arity int, rows ...impl.Tuple) impl.Rel { return impl.Rel{Arity: arity, Rows: rows} }

// manyRows is a relation of the numbers from 0 to n-1, each in a row of its own.
func manyRows(n int) impl.Rel {
	r := rel(1)
	for i := range n {
		r.Rows = append(r.Rows, row(impl.NumText(i)))
	}
	return r
}

func sameRow(a, b impl.Tuple) bool { return slices.Equal(a.T, b.T) }

func sameRel(a, b impl.Rel) bool {
	return a.Arity == b.Arity && slices.EqualFunc(a.Rows, b.Rows, sameRow)
}

func isNothing(r impl.Rel) bool { return sameRel(r, impl.Rel{}) }

// risingRows are tuples of which each one comes ahead of the next one: the first
// place that is not the same tells, and a tuple comes ahead of those it begins.
func risingRows() []impl.Tuple {
	return []impl.Tuple{
		row(),
		row("-10"), row("-9"), row("-9", "0"), row("-9", "Nil"),
		row("9"), row("9", "-1"), row("9", "9"), row("9", "9", "9", "9", "9", "9"), row("9", "10"), row("9", `"1"`), row("9", "Nil"),
		row("10"), row("10", "9"), row("10", "9", "100"), row("10", "10"), row("10", "10", "1"), row("100"), row("1000000"),
		row(`""`), row(`"1"`), row(`"10"`), row(`"10"`, "1"), row(`"9"`), row(`"9"`, `"9"`), row(`"a"`), row(`"a"`, "2", "3"), row(`"a"`, "10", "3"),
		row("A"), row("A", "A"), row("A(9)"), row("A(10)"), row(`A("1")`), row("A(1,1)"), row(longTerm(impl.MaxTerm)), row("B"), row("B", "1", "2", "3", "4", "5"), row("B", "1", "2", "3", "4", "6"),
	}
}

// noRows are tuples that are not TupleOk.
func noRows() []impl.Tuple {
	list := []impl.Tuple{
		row("1", "2", "3", "4", "5", "6", "7"), {T: make([]string, 100000)}, row("1", "x"), row("x", "1"), row("1", "2", "3", "4", "5", ""),
	}
	for _, s := range noTerms() {
		list = append(list, row(s), row("1", s), row(s, "1"))
	}
	return list
}

// noRels are relations that are not RelOk. The rows ("1"), ("2") are there in
// many of them, so that what is asked for is not just missing.
func noRels() []impl.Rel {
	list := []impl.Rel{
		rel(-1), rel(-1, row()), rel(impl.MaxArity + 1), rel(math.MinInt), rel(math.MaxInt),
		rel(7, row("1", "2", "3", "4", "5", "6", "7")),
		rel(0, row(), row()), rel(0, row("1")), rel(0, row(), row("1")),
		rel(1, row()), rel(1, row(), row("1")), rel(1, row("1"), row("2", "1")), rel(1, row("1", "1")), rel(2, row("1", "1"), row("2")),
		rel(1, row("2"), row("1")), rel(1, row("1"), row("1")), rel(1, row("1"), row("2"), row("2")), rel(1, row("1"), row("2"), row("1")),
		rel(1, row("10"), row("9")), rel(1, row("1"), row("10"), row("2")), rel(1, row(`"1"`), row("1")), rel(1, row("1"), row("Nil"), row(`"a"`)),
		rel(1, row("B"), row("A(1)")), rel(1, row("A(1,1)"), row("A(2)")), rel(1, row("A(10)"), row("A(9)")),
		rel(2, row("1", "10"), row("1", "9")), rel(2, row("2", "1"), row("1", "2")), rel(2, row("1", "1"), row("1", "1")),
		rel(1, row("1"), row("2"), row("x")), rel(1, row("1"), row("02"), row("3")), rel(1, row("x"), row("x")), rel(2, row("1", "1"), row("1", "y")),
		manyRows(impl.MaxRows + 1), manyRows(100000),
	}
	for _, s := range noTerms() {
		list = append(list, rel(1, row("1"), row("2"), row(s)), rel(1, row(s)))
	}
	return list
}

func TestTupleOk(t *testing.T) {
	good := []impl.Tuple{{}, row(), row("1"), row("1", "1"), row("1", "2", "3", "4", "5", "6"), row(longestSymbol, longestName, longTerm(impl.MaxTerm))}
	for _, s := range terms() {
		good = append(good, row(s), row("1", s), row("1", "2", "3", "4", "5", s))
	}
	for _, x := range slices.Concat(good, risingRows()) {
		if !impl.TupleOk(x) {
			t.Errorf("TupleOk(%.80q) is false", x.T)
		}
	}
	for _, x := range noRows() {
		if impl.TupleOk(x) {
			t.Errorf("TupleOk(%.80q) is true", x.T)
		}
	}
}

func TestTupleCmpOrdersAllTuples(t *testing.T) {
	list := risingRows()
	for i, a := range list {
		for j, b := range list {
			want := 0
			if i < j {
				want = -1
			} else if i > j {
				want = 1
			}
			if got := impl.TupleCmp(a, b); got != want {
				t.Errorf("TupleCmp(%q, %q) = %d, want %d", a.T, b.T, got, want)
			}
		}
	}
}

func TestTupleCmpOfWhatIsNotTupleOk(t *testing.T) {
	for _, x := range noRows() {
		for _, other := range []impl.Tuple{{}, row("1"), row("1", "2"), row("2"), row("Nil"), x, row("x")} {
			if a, b := impl.TupleCmp(x, other), impl.TupleCmp(other, x); a != 2 || b != 2 {
				t.Errorf("TupleCmp(%.80q, %.80q) = %d, and %d the other way, want 2", x.T, other.T, a, b)
			}
		}
	}
}

func TestRelOk(t *testing.T) {
	good := []impl.Rel{
		{}, rel(0), rel(0, row()), rel(0, impl.Tuple{}), rel(1), rel(impl.MaxArity), rel(1, row("1")), rel(1, row("9"), row("10")),
		rel(1, row("-1"), row("0"), row("1"), row(`"0"`), row("Nil")), rel(2, row("1", "9"), row("1", "10"), row("2", "1")),
		rel(6, row("1", "2", "3", "4", "5", "6"), row("1", "2", "3", "4", "5", "7")), rel(2, row("1", "1"), row("2", "1")),
		manyRows(1), manyRows(impl.MaxRows - 1), manyRows(impl.MaxRows),
	}
	for _, r := range good {
		if !impl.RelOk(r) {
			t.Errorf("RelOk(%.200q) is false", r.Rows)
		}
	}
	for _, r := range noRels() {
		if impl.RelOk(r) {
			t.Errorf("RelOk of %d, %.200q is true", r.Arity, r.Rows)
		}
	}
}

func TestRelPut(t *testing.T) {
	cases := []struct {
		r    impl.Rel
		t    impl.Tuple
		want impl.Rel
	}{
		{rel(0), row(), rel(0, row())},
		{impl.Rel{}, impl.Tuple{}, rel(0, row())},
		{rel(1), row("1"), rel(1, row("1"))},
		{rel(1, row("10")), row("9"), rel(1, row("9"), row("10"))},
		{rel(1, row("9")), row("10"), rel(1, row("9"), row("10"))},
		{rel(1, row("9"), row(`"a"`)), row("10"), rel(1, row("9"), row("10"), row(`"a"`))},
		{rel(1, row("9"), row("Nil")), row(`"10"`), rel(1, row("9"), row(`"10"`), row("Nil"))},
		{rel(1, row("1"), row(`"1"`)), row("S(1)"), rel(1, row("1"), row(`"1"`), row("S(1)"))},
		{rel(2, row("1", "2"), row("2", "1")), row("1", "10"), rel(2, row("1", "2"), row("1", "10"), row("2", "1"))},
		{rel(6), row("1", "2", "3", "4", "5", "6"), rel(6, row("1", "2", "3", "4", "5", "6"))},
		{manyRows(impl.MaxRows - 1), row(impl.NumText(impl.MaxRows - 1)), manyRows(impl.MaxRows)},
	}
	for _, c := range cases {
		got, ok := impl.RelPut(c.r, c.t)
		if !ok || !sameRel(got, c.want) {
			t.Errorf("RelPut(%.200q, %q) = %.200q, %t, want %.200q", c.r.Rows, c.t.T, got.Rows, ok, c.want.Rows)
		}
		if !impl.RelOk(got) || !impl.RelHas(got, c.t) || impl.RelHas(c.r, c.t) {
			t.Errorf("RelPut(%.200q, %q) has not the row, or it was there", c.r.Rows, c.t.T)
		}
	}
}

func TestRelPutOfARowThatIsThere(t *testing.T) {
	for _, r := range []impl.Rel{
		rel(0, row()), rel(1, row("1")), rel(1, row("9"), row("10"), row("Nil")), rel(2, row("1", "9"), row("1", "10"), row("2", "1")),
		rel(6, row("1", "2", "3", "4", "5", "6")), manyRows(impl.MaxRows),
	} {
		for _, x := range r.Rows {
			if got, ok := impl.RelPut(r, x); ok || !sameRel(got, r) {
				t.Errorf("RelPut(%.200q, %q) = %d, %.200q, %t, want the relation and false", r.Rows, x.T, got.Arity, got.Rows, ok)
			}
		}
	}
}

func TestRelPutRefuses(t *testing.T) {
	type put struct {
		r impl.Rel
		t impl.Tuple
	}
	cases := []put{
		{manyRows(impl.MaxRows), row("-1")}, {manyRows(impl.MaxRows), row(impl.NumText(impl.MaxRows))}, {manyRows(impl.MaxRows), row("Nil")},
		{rel(0), row("1")}, {rel(1), row()}, {rel(1), row("1", "2")}, {rel(2), row("1")}, {rel(2, row("1", "1")), row("1")}, {rel(1, row("1")), row("1", "1")},
		{rel(6), row("1", "2", "3", "4", "5")}, {rel(6), row("1", "2", "3", "4", "5", "6", "7")}, {rel(7), row("1", "2", "3", "4", "5", "6", "7")}, {rel(-1), row()},
	}
	for _, r := range noRels() {
		cases = append(cases, put{r, row("1")}, put{r, row("3")}, put{r, row()}, put{r, row("1", "1")}, put{r, row("3", "3")})
	}
	for _, x := range noRows() {
		cases = append(cases, put{rel(1, row("1")), x}, put{rel(2), x}, put{rel(6), x})
	}
	for _, c := range cases {
		if got, ok := impl.RelPut(c.r, c.t); ok || !isNothing(got) {
			t.Errorf("RelPut(%d, %.200q, %.80q) = %d, %.200q, %t, want nothing", c.r.Arity, c.r.Rows, c.t.T, got.Arity, got.Rows, ok)
		}
	}
}

func TestRelHas(t *testing.T) {
	one := rel(1, row("1"), row("9"), row("10"), row(`"1"`), row("Nil"), row("S(1)"))
	two := rel(2, row("1", "2"), row("1", "10"), row("2", "1"))
	for _, c := range []struct {
		r    impl.Rel
		t    impl.Tuple
		want bool
	}{
		{one, row("1"), true}, {one, row("9"), true}, {one, row("10"), true}, {one, row(`"1"`), true}, {one, row("Nil"), true}, {one, row("S(1)"), true},
		{one, row("2"), false}, {one, row("0"), false}, {one, row("11"), false}, {one, row(`"9"`), false}, {one, row("S(2)"), false}, {one, row("S"), false},
		{one, row(), false}, {one, row("1", "1"), false}, {one, row("01"), false},
		{two, row("1", "2"), true}, {two, row("1", "10"), true}, {two, row("2", "1"), true},
		{two, row("1", "1"), false}, {two, row("2", "2"), false}, {two, row("1"), false}, {two, row("1", "2", "3"), false}, {two, row("2", "10"), false},
		{rel(0), row(), false}, {rel(0, row()), row(), true}, {rel(0, row()), row("1"), false}, {rel(1), row("1"), false}, {impl.Rel{}, impl.Tuple{}, false},
		{manyRows(impl.MaxRows), row("0"), true}, {manyRows(impl.MaxRows), row(impl.NumText(impl.MaxRows - 1)), true}, {manyRows(impl.MaxRows), row(impl.NumText(impl.MaxRows)), false},
	} {
		if got := impl.RelHas(c.r, c.t); got != c.want {
			t.Errorf("RelHas(%.200q, %q) = %t", c.r.Rows, c.t.T, got)
		}
	}
	for _, r := range noRels() {
		for _, x := range r.Rows {
			if impl.RelHas(r, x) {
				t.Errorf("RelHas of %d, %.200q, which is not RelOk, is true", r.Arity, r.Rows)
				break
			}
		}
	}
	for _, x := range noRows() {
		if impl.RelHas(one, x) || impl.RelHas(two, x) || impl.RelHas(rel(len(x.T), x), x) {
			t.Errorf("RelHas has %.80q, which is not TupleOk", x.T)
		}
	}
}

func TestRelJoinAndRelLess(t *testing.T) {
	numbers := rel(1, row("2"), row("9"), row("10"))
	mixed := rel(1, row("9"), row(`"9"`), row("Nil"))
	full := manyRows(impl.MaxRows)
	for _, c := range []struct{ a, b, join, less impl.Rel }{
		{numbers, mixed, rel(1, row("2"), row("9"), row("10"), row(`"9"`), row("Nil")), rel(1, row("2"), row("10"))},
		{mixed, numbers, rel(1, row("2"), row("9"), row("10"), row(`"9"`), row("Nil")), rel(1, row(`"9"`), row("Nil"))},
		{numbers, rel(1, row("1"), row("3"), row("11")), rel(1, row("1"), row("2"), row("3"), row("9"), row("10"), row("11")), numbers},
		{numbers, numbers, numbers, rel(1)},
		{numbers, rel(1), numbers, numbers},
		{rel(1), numbers, numbers, rel(1)},
		{rel(1), rel(1), rel(1), rel(1)},
		{rel(6), rel(6), rel(6), rel(6)},
		{impl.Rel{}, impl.Rel{}, rel(0), rel(0)},
		{rel(0, row()), rel(0), rel(0, row()), rel(0, row())},
		{rel(0), rel(0, row()), rel(0, row()), rel(0)},
		{rel(0, row()), rel(0, row()), rel(0, row()), rel(0)},
		{numbers, rel(1, row("9")), numbers, rel(1, row("2"), row("10"))},
		{rel(1, row("9")), numbers, numbers, rel(1)},
		{rel(2, row("1", "10")), rel(2, row("1", "9"), row("2", "1")), rel(2, row("1", "9"), row("1", "10"), row("2", "1")), rel(2, row("1", "10"))},
		{full, full, full, rel(1)},
		{full, manyRows(10), full, rel(1, full.Rows[10:]...)},
		{manyRows(10), full, full, rel(1)},
		{manyRows(200), rel(1, full.Rows[200:]...), full, manyRows(200)},
		{manyRows(250), rel(1, full.Rows[150:]...), full, manyRows(150)},
	} {
		join, ok := impl.RelJoin(c.a, c.b)
		if !ok || !sameRel(join, c.join) {
			t.Errorf("RelJoin(%.200q, %.200q) = %d, %.200q, %t", c.a.Rows, c.b.Rows, join.Arity, join.Rows, ok)
		}
		if less := impl.RelLess(c.a, c.b); !sameRel(less, c.less) {
			t.Errorf("RelLess(%.200q, %.200q) = %d, %.200q", c.a.Rows, c.b.Rows, less.Arity, less.Rows)
		}
	}
}

func TestRelJoinRefusesTooManyRows(t *testing.T) {
	all := manyRows(impl.MaxRows + 1)
	first, rest := rel(1, all.Rows[:impl.MaxRows]...), rel(1, all.Rows[1:]...)
	for _, pair := range [][2]impl.Rel{{first, rest}, {rest, first}, {first, rel(1, row("-1"))}, {rel(1, row("Nil")), first}} {
		if got, ok := impl.RelJoin(pair[0], pair[1]); ok || !isNothing(got) {
			t.Errorf("RelJoin answers %d, %d rows, %t", got.Arity, len(got.Rows), ok)
		}
		if got := impl.RelLess(pair[0], pair[1]); got.Arity != 1 || len(got.Rows) == 0 {
			t.Errorf("RelLess answers %d, %d rows", got.Arity, len(got.Rows))
		}
	}
}

func TestRelJoinAndRelLessRefuse(t *testing.T) {
	pairs := [][2]impl.Rel{
		{rel(1, row("1")), rel(2, row("1", "1"))}, {rel(1), rel(2)}, {rel(0), rel(1)}, {rel(0, row()), rel(1)}, {rel(6), rel(5)}, {impl.Rel{}, rel(1, row("1"))},
	}
	for _, r := range noRels() {
		pairs = append(pairs, [2]impl.Rel{r, rel(1, row("1"))}, [2]impl.Rel{r, rel(2)}, [2]impl.Rel{r, rel(0)}, [2]impl.Rel{r, rel(r.Arity)}, [2]impl.Rel{r, r})
	}
	for _, pair := range pairs {
		for _, two := range [][2]impl.Rel{pair, {pair[1], pair[0]}} {
			if got, ok := impl.RelJoin(two[0], two[1]); ok || !isNothing(got) {
				t.Errorf("RelJoin(%.200q, %.200q) = %d, %.200q, %t, want nothing", two[0].Rows, two[1].Rows, got.Arity, got.Rows, ok)
			}
			if got := impl.RelLess(two[0], two[1]); !isNothing(got) {
				t.Errorf("RelLess(%.200q, %.200q) = %d, %.200q, want nothing", two[0].Rows, two[1].Rows, got.Arity, got.Rows)
			}
		}
	}
}

func TestRelSeek(t *testing.T) {
	r := rel(3, row("1", "2", "3"), row("1", "2", "10"), row("1", "10", "2"), row("10", "1", "1"), row(`"1"`, "1", "1"), row("S(1)", "1", "1"), row("S(1)", "2", "1"))
	for _, c := range []struct {
		r    impl.Rel
		head []string
		want []impl.Tuple
	}{
		{r, nil, r.Rows}, {r, []string{}, r.Rows},
		{r, []string{"1"}, r.Rows[:3]}, {r, []string{"1", "2"}, r.Rows[:2]}, {r, []string{"1", "2", "10"}, r.Rows[1:2]},
		{r, []string{"1", "10"}, r.Rows[2:3]}, {r, []string{"10"}, r.Rows[3:4]}, {r, []string{`"1"`}, r.Rows[4:5]}, {r, []string{"S(1)"}, r.Rows[5:]}, {r, []string{"S(1)", "2"}, r.Rows[6:]},
		{r, []string{"1", "1"}, nil}, {r, []string{"2"}, nil}, {r, []string{"S"}, nil}, {r, []string{"1", "2", "2"}, nil}, {r, []string{"0"}, nil}, {r, []string{"Z"}, nil},
		{r, []string{"1", "2", "3", "4"}, nil}, {r, []string{"1", "2", "3", ""}, nil}, {r, make([]string, 100000), nil}, {r, []string{"01"}, nil}, {r, []string{"x"}, nil}, {r, []string{""}, nil},
		{rel(0), nil, nil}, {rel(0, row()), nil, []impl.Tuple{row()}}, {rel(0, row()), []string{"1"}, nil}, {rel(1), nil, nil}, {rel(1), []string{"1"}, nil}, {rel(1, row("1")), []string{"1"}, []impl.Tuple{row("1")}},
		{rel(6, row("1", "2", "3", "4", "5", "6")), []string{"1", "2", "3", "4", "5", "6"}, []impl.Tuple{row("1", "2", "3", "4", "5", "6")}},
		{manyRows(impl.MaxRows), nil, manyRows(impl.MaxRows).Rows}, {manyRows(impl.MaxRows), []string{"399"}, []impl.Tuple{row("399")}},
	} {
		if got := impl.RelSeek(c.r, c.head); !slices.EqualFunc(got, c.want, sameRow) {
			t.Errorf("RelSeek(%.200q, %.80q) = %.200q, want %.200q", c.r.Rows, c.head, got, c.want)
		}
	}
	for _, r := range noRels() {
		for _, head := range [][]string{nil, {}, {"1"}, {"1", "1"}, {"x"}} {
			if got := impl.RelSeek(r, head); len(got) != 0 {
				t.Errorf("RelSeek(%.200q, %q) = %.200q, want nothing", r.Rows, head, got)
			}
		}
	}
}
