package tests

import (
	"math"
	"slices"
	"testing"

	"loop.example/g00531/impl"
)

func arc(a, b int, strict bool) impl.Arc { return impl.Arc{A: a, B: b, Strict: strict} }

// wrongArcs are those of graphs that are not right.
func wrongArcs() [][]impl.Arc {
	list := [][]impl.Arc{
		// They do not rise by A, or by B, the last two among them.
		graph("aa:10,00").Arcs, graph("aa:10,01").Arcs, graph("aa:11,00").Arcs, graph("aa:01,00").Arcs, graph("aa:55,54").Arcs, graph("aa:50,45").Arcs, graph("aa:00,10,05").Arcs, graph("aa:00,01,02,11,10").Arcs, graph("aa:00!,20,10!").Arcs, graph("aa:00,11,22,33,44,55,54").Arcs,
		// A pair stands twice, Strict or not.
		graph("aa:00,00").Arcs, graph("aa:00!,00!").Arcs, graph("aa:00,00!").Arcs, graph("aa:00!,00").Arcs, graph("aa:00,12,12,55").Arcs, graph("aa:00,12,12!").Arcs, graph("aa:12,20,12").Arcs, graph("aa:00,00,11").Arcs,
		times(37, arc(0, 0, true)), times(100000, arc(0, 0, false)),
	}
	for _, none := range []int{-1, -2, impl.MaxArity, impl.MaxArity + 1, 10, 1 << 32, math.MaxInt, math.MinInt, math.MaxInt/impl.MaxArity + 1, math.MinInt/impl.MaxArity - 1} {
		for _, strict := range []bool{false, true} {
			list = append(list, []impl.Arc{arc(none, 0, strict)}, []impl.Arc{arc(0, none, strict)}, []impl.Arc{arc(none, none, strict)}, []impl.Arc{arc(none, 5, strict)}, []impl.Arc{arc(5, none, strict)},
				[]impl.Arc{arc(0, 0, strict), arc(0, none, false)}, []impl.Arc{arc(0, 0, strict), arc(none, 0, false)}, []impl.Arc{arc(none, 0, strict), arc(5, 5, true)}, []impl.Arc{arc(0, none, strict), arc(5, 5, true)})
		}
	}
	return list
}

// allArcs is a graph with as many arcs as there may be.
func allArcs(strict bool) impl.Graph {
	var g impl.Graph
	for a := range impl.MaxArity {
		for b := range impl.MaxArity {
			g.Arcs = append(g.Arcs, arc(a, b, strict))
		}
	}
	return g
}

func wantCompose(t *testing.T, g, h, want impl.Graph, ok bool) {
	t.Helper()
	if got, gotOk := impl.Compose(g, h); !sameGraph(got, want) || gotOk != ok {
		t.Errorf("Compose(%s, %s) = %v, %v, want %v, %v", told(g), told(h), got, gotOk, want, ok)
	}
}

func TestCompose(t *testing.T) {
	for _, c := range []struct{ g, h, want string }{
		// By one place, with each of the two Strict and not.
		{"ab:00", "bc:00", "ac:00"}, {"ab:00!", "bc:00", "ac:00!"}, {"ab:00", "bc:00!", "ac:00!"}, {"ab:00!", "bc:00!", "ac:00!"}, {"ab:12", "bc:23", "ac:13"}, {"ab:50!", "bc:05", "ac:55!"}, {"ab:05", "bc:50", "ac:00"}, {"ab:01", "bc:10!", "ac:00!"}, {"ab:55!", "bc:55", "ac:55!"},
		// By none: the two meet nowhere.
		{"ab:01", "bc:00", "ac:"}, {"ab:10", "bc:11!", "ac:"}, {"ab:00!,10,24", "bc:10,22!,55", "ac:"},
		// By two places, of which one is Strict, by the first or by the second arc, or none, or both.
		{"ab:00,01", "bc:00,10", "ac:00"}, {"ab:00!,01", "bc:00,10", "ac:00!"}, {"ab:00,01!", "bc:00,10", "ac:00!"}, {"ab:00,01", "bc:00!,10", "ac:00!"}, {"ab:00,01", "bc:00,10!", "ac:00!"}, {"ab:00!,01!", "bc:00!,10!", "ac:00!"}, {"ab:00!,01", "bc:00,10!", "ac:00!"}, {"ab:00,01,02!,03,04,05", "bc:00,10,20,30,40,50", "ac:00!"}, {"ab:00,01,02,03,04,05", "bc:00,10,20,30,40,50", "ac:00"},
		// A Strict arc that meets none does not count.
		{"ab:00!,01", "bc:10", "ac:00"}, {"ab:00,01!", "bc:00", "ac:00"}, {"ab:01", "bc:00!,10", "ac:00"}, {"ab:00", "bc:00,10!", "ac:00"}, {"ab:00!,11", "bc:11", "ac:11"},
		// Several arcs, which come in order.
		{"ab:00,11", "bc:00,11", "ac:00,11"}, {"ab:01,10", "bc:01,10", "ac:00,11"}, {"ab:01!,10", "bc:01,10", "ac:00!,11"}, {"ab:01,10!", "bc:01,10!", "ac:00!,11!"}, {"ab:01,10", "bc:00!,11", "ac:01,10!"}, {"ab:00,10!", "bc:00,01!", "ac:00,01!,10!,11!"}, {"ab:02,15,20!", "bc:01,20,52!", "ac:00,12!,21!"}, {"ab:05,14,23,32,41,50", "bc:00!,11,22!,33,44!,55", "ac:05,14!,23,32!,41,50!"}, {"ab:03", "bc:30,31!,32,35", "ac:00,01!,02,05"}, {"ab:03,13!,53", "bc:31", "ac:01,11!,51"},
		// No arcs.
		{"ab:", "bc:", "ac:"}, {"ab:00,11!", "bc:", "ac:"}, {"ab:", "bc:00!,11", "ac:"},
		// One relation, and two.
		{"aa:00", "aa:00", "aa:00"}, {"aa:01!,10", "aa:01!,10", "aa:00!,11!"}, {"ab:00", "ba:00!", "aa:00!"}, {"ba:00", "aa:01", "ba:01"}, {"aa:", "ab:", "ab:"},
	} {
		wantCompose(t, graph(c.g), graph(c.h), graph(c.want), true)
	}
	for _, c := range []struct{ first, second, strict bool }{{false, false, false}, {true, false, true}, {false, true, true}, {true, true, true}} {
		wantCompose(t, allArcs(c.first), allArcs(c.second), allArcs(c.strict), true)
	}
}

func TestComposeOfGraphsThatDoNotFollow(t *testing.T) {
	for _, pair := range [][2]string{{"ab:00", "ab:00"}, {"ab:00", "aa:00"}, {"ab:00", "ca:00"}, {"ab:", "cb:"}, {"ba:00!", "bc:00!"}, {"aa:00", "ba:00"}, {"ab:00", "ac:00"}} {
		wantCompose(t, graph(pair[0]), graph(pair[1]), impl.Graph{}, false)
	}
}

// TestFromAndToMayBeAnyNumbers: they are told by no program here.
func TestFromAndToMayBeAnyNumbers(t *testing.T) {
	numbers := []int{0, 1, -1, impl.MaxRels, math.MaxInt, math.MinInt}
	arcs := graph("aa:00!").Arcs
	for _, from := range numbers {
		for _, over := range numbers {
			for _, to := range numbers {
				wantCompose(t, impl.Graph{From: from, To: over, Arcs: arcs}, impl.Graph{From: over, To: to, Arcs: arcs}, impl.Graph{From: from, To: to, Arcs: arcs}, true)
			}
			wantFalls(t, impl.Graph{From: from, To: over}, from != over)
			wantFalls(t, impl.Graph{From: from, To: over, Arcs: arcs}, true)
			if from != over {
				wantCompose(t, impl.Graph{From: from, To: over}, impl.Graph{From: from, To: over}, impl.Graph{}, false)
			}
			wantClosed(t, []impl.Graph{{From: from, To: over, Arcs: arcs}}, []impl.Graph{{From: from, To: over, Arcs: arcs}})
		}
	}
}

func TestGraphsThatAreNotRight(t *testing.T) {
	right := graph("aa:00!,11")
	for _, arcs := range wrongArcs() {
		wrong := impl.Graph{Arcs: arcs}
		wantCompose(t, wrong, right, impl.Graph{}, false)
		wantCompose(t, right, wrong, impl.Graph{}, false)
		wantCompose(t, wrong, wrong, impl.Graph{}, false)
		wantCompose(t, wrong, impl.Graph{}, impl.Graph{}, false)
		wantFalls(t, wrong, false)
		wantFalls(t, impl.Graph{From: 1, Arcs: arcs}, false)
		wantNotClosed(t, []impl.Graph{wrong})
		wantNotClosed(t, []impl.Graph{wrong, right})
		wantNotClosed(t, []impl.Graph{right, graph("ab:"), wrong})
		wantNotClosed(t, append(strangers(impl.MaxGraphs), wrong))
	}
	for _, g := range []impl.Graph{{}, graph("aa:55"), graph("aa:05,10"), graph("aa:05!,10,15!,20!"), allArcs(false), allArcs(true)} {
		if _, ok := impl.Compose(g, g); !ok {
			t.Errorf("%v is right", g)
		}
	}
}

func wantFalls(t *testing.T, g impl.Graph, want bool) {
	t.Helper()
	if got := impl.Falls(g); got != want {
		t.Errorf("Falls(%s) = %v", told(g), got)
	}
}

func TestFalls(t *testing.T) {
	for _, word := range words("ab: ab:00 ab:00,11 ba:01!,10 ab:00!" +
		// Compose with itself is not it: other arcs, fewer, or the same and Strict.
		" aa:01 aa:01! aa:01,10 aa:01!,10 aa:10 aa:00,11,12,23 aa:00!,01 aa:00,01!,10 aa:00,01,10,11! aa:00,01,10!,11 aa:05,14,23,32,41,50 aa:04,55" +
		// It has a Strict arc from a place to itself.
		" aa:00! aa:55! aa:00!,11 aa:00,11! aa:00,11,22,33,44,55! aa:00!,11! aa:00!,01!,10!,11! aa:00,01!,11! aa:00!,01!,11 aa:33! zz:22!") {
		wantFalls(t, graph(word), true)
	}
	for _, word := range words("aa: zz: aa:00 aa:55 aa:00,11 aa:00,11,22,33,44,55 aa:00,01,10,11" +
		// A Strict arc that is not from a place to itself.
		" aa:00,01! aa:01!,11 aa:00,10! aa:00,01!,11 aa:00,10!,11 aa:00,05!,55 bb:10,11,12! aa:22,23!,33,44") {
		wantFalls(t, graph(word), false)
	}
	wantFalls(t, allArcs(true), true)
	wantFalls(t, allArcs(false), false)
}

func wantClosed(t *testing.T, list, want []impl.Graph) {
	t.Helper()
	got, ok := impl.Closed(list)
	if !ok || !sameGraphs(got, want) {
		t.Errorf("Closed(%s) = %s, %v, want %s", told(list...), told(got...), ok, told(want...))
	}
	if again, ok := impl.Closed(got); !ok || !sameGraphs(again, got) {
		t.Errorf("Closed(%s) is %s, closed again %s, %v", told(list...), told(got...), told(again...), ok)
	}
}

func wantNotClosed(t *testing.T, list []impl.Graph) {
	t.Helper()
	if got, ok := impl.Closed(list); len(got) > 0 || ok {
		t.Errorf("Closed(%s) = %s, %v, want nothing", told(list...), told(got...), ok)
	}
}

func TestClosed(t *testing.T) {
	for list, want := range map[string]string{
		"": "", "ab:00": "ab:00", "ab:": "ab:", "aa:": "aa:", "aa:00": "aa:00", "aa:00!": "aa:00!", "aa:01": "aa:01 aa:", "ab:00 cd:11": "ab:00 cd:11", "ab:00 cb:00 ad:": "ab:00 cb:00 ad:",
		// Graphs that are given twice.
		"aa:00 aa:00": "aa:00", "ab:00 ab:11 ab:00 ab:00 ab:11": "ab:00 ab:11", "ab: cd:00! ab: ab:00! cd:00!": "ab: cd:00! ab:00!", "aa:01 aa:01": "aa:01 aa:",
		// They are told apart by From, To, and each arc.
		"ab:00 ab:00! ab:01 ab:10 ab: cb:00 ad:00": "ab:00 ab:00! ab:01 ab:10 ab: cb:00 ad:00", "ad:00,11 ad:00,11! ad:00!,11 ad:00!,11! ad:00 ad:11": "ad:00,11 ad:00,11! ad:00!,11 ad:00!,11! ad:00 ad:11",
		// What comes of them stands behind them all.
		"ab:00 bc:00": "ab:00 bc:00 ac:00", "bc:00 ab:00": "bc:00 ab:00 ac:00", "ab:00! ef:00 bc:00": "ab:00! ef:00 bc:00 ac:00!", "ac:00 ab:00 bc:00": "ac:00 ab:00 bc:00", "ac:00! ab:00 bc:00": "ac:00! ab:00 bc:00 ac:00",
		"aa:01!,10": "aa:01!,10 aa:00!,11! aa:01!,10!", "aa:01,12,20": "aa:01,12,20 aa:02,10,21 aa:00,11,22", "aa:01,12,23,34,45": "aa:01,12,23,34,45 aa:02,13,24,35 aa:03,14,25 aa:04,15 aa:05 aa:",
		// One time after the other, the first of two by its place, then the second.
		"ab:00 ba:00!": "ab:00 ba:00! aa:00! bb:00! ab:00!", "ba:00! ab:00": "ba:00! ab:00 bb:00! aa:00! ab:00!", "ab:00 bc:00 cd:00": "ab:00 bc:00 cd:00 ac:00 bd:00 ad:00", "cd:00 bc:00 ab:00": "cd:00 bc:00 ab:00 bd:00 ac:00 ad:00",
		"bc:00 ab:00 cd:00 de:00": "bc:00 ab:00 cd:00 de:00 bd:00 ac:00 ce:00 be:00 ad:00 ae:00", "bc:00 bd:00 ab:00 ab:01": "bc:00 bd:00 ab:00 ab:01 ac:00 ad:00 ac: ad:",
		"aa:01,10,22 aa:00,12,21": "aa:01,10,22 aa:00,12,21 aa:00,11,22 aa:02,10,21 aa:01,12,20 aa:02,11,20", "aa:00,12,21 aa:01,10,22": "aa:00,12,21 aa:01,10,22 aa:00,11,22 aa:01,12,20 aa:02,10,21 aa:02,11,20",
		// A graph that comes is put beside one that differs by what is Strict alone.
		"aa:00 aa:00!": "aa:00 aa:00!", "ab:00! bc:00 ac:00": "ab:00! bc:00 ac:00 ac:00!",
	} {
		wantClosed(t, graphs(list), graphs(want))
	}
	wantClosed(t, []impl.Graph{}, nil)
}

// strangers are graphs no two of which follow one another.
func strangers(n int) []impl.Graph {
	var list []impl.Graph
	for i := range n {
		list = append(list, impl.Graph{From: 1000 + i, To: -1 - i})
	}
	return list
}

func TestJustMaxGraphsAreGiven(t *testing.T) {
	list := strangers(impl.MaxGraphs)
	wantClosed(t, list, list)
	// Those that stand twice count once.
	wantClosed(t, slices.Concat(list, list), list)
	wantClosed(t, times(100000, list[7]), list[7:8])
	wantNotClosed(t, strangers(impl.MaxGraphs+1))
	wantNotClosed(t, strangers(50000))
	wantNotClosed(t, append(list, graph("aa:")))
	wantNotClosed(t, slices.Concat(list, list, graphs("aa:")))
}

func TestJustMaxGraphsCome(t *testing.T) {
	// Two that follow one another, and the third that comes.
	for _, c := range []struct {
		pair string
		more int
	}{{"ab: bc:", 1}, {"ab:00 ba:00!", 3}, {"aa:01", 1}, {"aa:01,12,23,34,45", 5}, {"ab:00 bc:00 cd:00", 3}} {
		pair := graphs(c.pair)
		room := impl.MaxGraphs - len(pair) - c.more
		for _, n := range []int{room - 1, room} {
			for _, list := range [][]impl.Graph{slices.Concat(strangers(n), pair), slices.Concat(pair, strangers(n)), slices.Concat(pair, strangers(n), pair)} {
				if got, ok := impl.Closed(list); !ok || len(got) != impl.MaxGraphs-room+n {
					t.Errorf("Closed of %v and %d others = %d graphs, %v", pair, n, len(got), ok)
				}
			}
		}
		for _, n := range []int{room + 1, room + 2, impl.MaxGraphs - len(pair)} {
			wantNotClosed(t, slices.Concat(strangers(n), pair))
			wantNotClosed(t, slices.Concat(pair, strangers(n)))
		}
	}
}

// TestGraphsThatPutPlacesInAnotherOrder: all orders of five places are just as
// many as there may be, those of six are more.
func TestGraphsThatPutPlacesInAnotherOrder(t *testing.T) {
	turn, swap := "aa:01,12,23,34,40", "aa:01,10,22,33,44"
	for _, list := range [][]impl.Graph{graphs(turn + " " + swap), graphs(swap + " " + turn)} {
		got, ok := impl.Closed(list)
		if !ok || len(got) != impl.MaxGraphs {
			t.Errorf("Closed(%v) = %d graphs, %v", list, len(got), ok)
		}
		wantClosed(t, got, got)
		wantNotClosed(t, append(slices.Clone(list), graph("bb:")))
		wantNotClosed(t, append(graphs("bc:"), list...))
		wantNotClosed(t, append(got, graph("bc:")))
	}
	wantNotClosed(t, graphs("aa:01,12,23,34,45,50 aa:01,10,22,33,44,55"))
}
