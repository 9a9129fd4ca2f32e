package tests

import (
	"maps"
	"slices"
	"strconv"
	"strings"
	"testing"

	"loop.example/g00093/impl"
)

// edge: one without Yes and Node.
func edge(from, to, kind int) impl.Edge { return impl.Edge{From: from, To: to, Kind: kind} }

func edgeWith(from, to, kind int, n impl.Node) impl.Edge {
	return impl.Edge{From: from, To: to, Kind: kind, Node: n}
}

func guardEdge(from, to int, yes bool, n impl.Node) impl.Edge {
	return impl.Edge{From: from, To: to, Kind: impl.EgGuard, Yes: yes, Node: n}
}

func sameEdge(a, b impl.Edge) bool {
	return a.From == b.From && a.To == b.To && a.Kind == b.Kind && a.Yes == b.Yes && sameTree(a.Node, b.Node)
}

func sameGraph(a, b impl.Graph) bool {
	return a.Points == b.Points && slices.EqualFunc(a.Edges, b.Edges, sameEdge)
}

func copyGraph(g impl.Graph) impl.Graph {
	edges := g.Edges
	g.Edges = nil
	for _, e := range edges {
		e.Node = copyTree(e.Node)
		g.Edges = append(g.Edges, e)
	}
	return g
}

// A frame is a block that is not closed yet: its word, the point ahead of it or
// its head, its condition, and of an else the end of the first block.
type frame struct {
	word  string
	start int
	cond  string
	first int
}

// A drawing is the graph of a program once more, made of the lines that its
// Plain is printed as; loops has the head and the last point of each.
type drawing struct {
	points, at int
	edges      []impl.Edge
	texts      []string
	open       []frame
	loops      map[int]int
}

func (d *drawing) point() int {
	d.points++
	return d.points - 1
}

// edge adds one; what is written behind it is a statement or a condition.
func (d *drawing) edge(t *testing.T, from, to int, word, text string) {
	t.Helper()
	kind := 1 + slices.Index(strings.Fields("set put read yes check skip stop"), strings.Replace(word, "no", "yes", 1))
	e := impl.Edge{From: from, To: to, Kind: kind, Yes: word == "yes"}
	switch word {
	case "set", "put", "read":
		e.Node = tree(t, text+";").Kids[0].Kids[0]
	case "yes", "no", "check":
		e.Node = tree(t, "check "+text+";").Kids[0].Kids[0].Kids[0]
	}
	d.edges, d.texts = append(d.edges, e), append(d.texts, strings.TrimSpace(word+" TO "+text))
}

// lead goes on to a new point.
func (d *drawing) lead(t *testing.T, word, text string) {
	t.Helper()
	to := d.point()
	d.edge(t, d.at, to, word, text)
	d.at = to
}

func (d *drawing) line(t *testing.T, line string) {
	t.Helper()
	stmt := strings.TrimSuffix(line, ";")
	word, rest, _ := strings.Cut(strings.TrimSuffix(stmt, " {"), " ")
	switch {
	case word == "var" || word == "array":
	case line == "stop;":
		d.edge(t, d.at, -1, "stop", "")
		d.at = d.point()
	case line == "} else {":
		last := &d.open[len(d.open)-1]
		last.word, last.first, d.at = "else", d.at, last.start
		d.lead(t, "no", last.cond)
	case line == "}":
		d.close(t)
	case word == "skip":
		d.lead(t, "skip", "")
	case word == "while":
		d.lead(t, "skip", "")
		fallthrough
	case word == "if":
		d.open = append(d.open, frame{word: word, start: d.at, cond: rest})
		d.lead(t, "yes", rest)
	case word == "read":
		d.lead(t, "read", stmt)
	case word == "check":
		d.lead(t, "check", rest)
	case strings.Contains(word, "["):
		d.lead(t, "put", stmt)
	default:
		d.lead(t, "set", stmt)
	}
}

// close ends the innermost block.
func (d *drawing) close(t *testing.T) {
	t.Helper()
	last := d.open[len(d.open)-1]
	d.open = d.open[:len(d.open)-1]
	if last.word == "while" {
		d.loops[last.start] = d.at
		d.edge(t, d.at, last.start, "skip", "")
		d.at = last.start
		d.lead(t, "no", last.cond)
		return
	}
	if last.word == "if" {
		last.first, d.at = d.at, last.start
		d.lead(t, "no", last.cond)
	}
	to := d.point()
	d.edge(t, last.first, to, "skip", "")
	d.edge(t, d.at, to, "skip", "")
	d.at = to
}

// drawn gives the graph of a right program, its text, and its loops.
func drawn(t *testing.T, n impl.Node) (impl.Graph, string, map[int]int) {
	t.Helper()
	d := drawing{points: 1, loops: map[int]int{}}
	for line := range strings.Lines(impl.Print(impl.Plain(n))) {
		d.line(t, strings.TrimSpace(line))
	}
	d.lead(t, "skip", "")
	text := ""
	for i, e := range d.edges {
		if e.To < 0 {
			d.edges[i].To = d.at
		}
		text += strconv.Itoa(e.From) + " " + strings.Replace(d.texts[i], "TO", strconv.Itoa(d.edges[i].To), 1) + "\n"
	}
	return impl.Graph{Points: d.points, Edges: d.edges}, text, d.loops
}

// loopsByOrder reads the loops out of the OrderText of a program's graph.
func loopsByOrder(t *testing.T, g impl.Graph) map[int]int {
	t.Helper()
	text := impl.OrderText(g)
	list := strings.Split(text, " ")
	loops := map[int]int{}
	var open []int
	for point, one := range list {
		if strings.HasPrefix(one, "(") {
			open = append(open, point)
			one = one[1:]
		}
		number := strings.TrimRight(one, ")")
		if number != strconv.Itoa(point) {
			t.Fatalf("%q has %q at %d", text, one, point)
		}
		for range len(one) - len(number) {
			if len(open) == 0 {
				t.Fatalf("%q has too many )", text)
			}
			loops[open[len(open)-1]] = point
			open = open[:len(open)-1]
		}
	}
	if len(open) > 0 || len(list) != g.Points {
		t.Fatalf("%q of %d points", text, g.Points)
	}
	return loops
}

// wantGraph: the graph of a right program keeps promise 4, and is as the lines
// of its text say.
func wantGraph(t *testing.T, n impl.Node) impl.Graph {
	t.Helper()
	before := copyTree(n)
	g := impl.GraphOf(n)
	want, text, loops := drawn(t, n)
	if !sameGraph(g, want) || !impl.GraphOk(g) {
		t.Fatalf("GraphOf %s is %v, want %v", shown(n), g, want)
	}
	if got := impl.GraphText(g); got != text {
		t.Fatalf("GraphText of %s is %q, want %q", shown(n), got, text)
	}
	if got := loopsByOrder(t, g); !maps.Equal(got, loops) {
		t.Fatalf("OrderText of %s is %q, want %v", shown(n), impl.OrderText(g), loops)
	}
	wantPromise4(t, n, g)
	if !sameTree(n, before) || !sameGraph(g, want) {
		t.Fatalf("%v has become %v", before, n)
	}
	return g
}

func wantPromise4(t *testing.T, n impl.Node, g impl.Graph) {
	t.Helper()
	heads, nest := impl.HeadsOf(g), impl.NestOf(g)
	leaving := make([]int, g.Points)
	for _, e := range g.Edges {
		leaving[e.From]++
		if e.To <= e.From && (!slices.Contains(heads, e.To) || !slices.Contains(nest[e.From], e.To)) {
			t.Fatalf("%v leads back in %s, heads %v, nest %v", e, shown(n), heads, nest[e.From])
		}
	}
	for point, count := range leaving {
		if (count == 0) != (point == g.Points-1) {
			t.Fatalf("%d edges from %d in %s", count, point, shown(n))
		}
	}
	words, _ := impl.Words(impl.Print(n))
	loops := 0
	for _, w := range words {
		if w.Text == "while" || w.Text == "for" {
			loops++
		}
	}
	if len(heads) != loops || len(nest) != g.Points {
		t.Fatalf("%d loops, heads %v, %d nests in %s", loops, heads, len(nest), shown(n))
	}
	byOrder := loopsByOrder(t, g)
	if !slices.Equal(heads, slices.Sorted(maps.Keys(byOrder))) {
		t.Fatalf("heads %v, order %q", heads, impl.OrderText(g))
	}
	for point, list := range nest {
		var around []int
		for _, head := range heads {
			if head <= point && point <= byOrder[head] {
				around = append(around, head)
			}
		}
		if !slices.Equal(list, around) {
			t.Fatalf("%d is in the loops of %v, want %v", point, list, around)
		}
	}
}

// wantNoGraph: of a graph that is not ok nothing is told.
func wantNoGraph(t *testing.T, g impl.Graph) {
	t.Helper()
	if impl.GraphOk(g) || len(impl.HeadsOf(g))+len(impl.NestOf(g)) > 0 || impl.OrderText(g)+impl.GraphText(g) != "" {
		t.Errorf("%d points, %d edges: ok %v, %v %.100q %.100q", g.Points, len(g.Edges), impl.GraphOk(g), impl.HeadsOf(g), impl.OrderText(g), impl.GraphText(g))
	}
}

// wantLoops: an ok graph has these heads, nests and this order, as its edges
// say point by point.
func wantLoops(t *testing.T, g impl.Graph, order string) {
	t.Helper()
	before := copyGraph(g)
	if !impl.GraphOk(g) {
		t.Fatalf("%v is not ok", g)
	}
	lasts := map[int]int{}
	for _, e := range g.Edges {
		if e.From >= e.To {
			lasts[e.To] = max(lasts[e.To], e.From)
		}
	}
	if heads := impl.HeadsOf(g); !slices.Equal(heads, slices.Sorted(maps.Keys(lasts))) {
		t.Fatalf("%v has the heads %v", g, heads)
	}
	var points []string
	nest := impl.NestOf(g)
	if len(nest) != g.Points {
		t.Fatalf("%v has %d nests", g, len(nest))
	}
	for point := range g.Points {
		var around []int
		ends := ""
		for _, head := range slices.Sorted(maps.Keys(lasts)) {
			if head <= point && point <= lasts[head] {
				around = append(around, head)
			}
			if lasts[head] == point {
				ends += ")"
			}
		}
		if !slices.Equal(nest[point], around) {
			t.Fatalf("%d of %v is in the loops of %v, want %v", point, g, nest[point], around)
		}
		text := strconv.Itoa(point) + ends
		if _, ok := lasts[point]; ok {
			text = "(" + text
		}
		points = append(points, text)
	}
	if order == "" {
		order = strings.Join(points, " ")
	}
	if got := impl.OrderText(g); got != order || got != strings.Join(points, " ") {
		t.Fatalf("%v has the order %q, want %q", g, got, order)
	}
	if !sameGraph(g, before) {
		t.Fatalf("%v has become %v", before, g)
	}
}

// skips: a graph whose edges are EgSkip from the first of each pair to the other.
func skips(points int, pairs ...[2]int) impl.Graph {
	g := impl.Graph{Points: points}
	for _, pair := range pairs {
		g.Edges = append(g.Edges, edge(pair[0], pair[1], impl.EgSkip))
	}
	return g
}

func TestGraphConstants(t *testing.T) {
	got := []int{impl.MaxPoints, impl.EgSet, impl.EgPut, impl.EgRead, impl.EgGuard, impl.EgCheck, impl.EgSkip, impl.EgStop}
	if want := []int{3000, 1, 2, 3, 4, 5, 6, 7}; !slices.Equal(got, want) {
		t.Fatalf("%v, want %v", got, want)
	}
}

// Promise 4, of programs with all kinds of statements.
func TestGraphsOfRightPrograms(t *testing.T) {
	next := draws(4)
	right, loops, stops := 0, 0, 0
	for range 1500 {
		n := rightProgram(next)
		if impl.Check(n).Code != impl.OK {
			if g := impl.GraphOf(n); !sameGraph(g, impl.Graph{}) {
				t.Fatalf("GraphOf %s is %v", shown(n), g)
			}
			continue
		}
		right++
		g := wantGraph(t, n)
		if len(impl.HeadsOf(g)) > 0 {
			loops++
		}
		if slices.ContainsFunc(g.Edges, func(e impl.Edge) bool { return e.Kind == impl.EgStop }) {
			stops++
		}
		if plain := impl.GraphOf(impl.Plain(n)); !sameGraph(plain, g) {
			t.Fatalf("the graph of Plain of %s is %v, want %v", shown(n), plain, g)
		}
	}
	if right < 1000 || loops < 400 || stops < 400 {
		t.Fatalf("%d right programs, %d with loops, %d with stops", right, loops, stops)
	}
}

// Each kind of statement by itself: its points and edges, and nothing else.
func TestGraphOfEachStatement(t *testing.T) {
	i, one := variable("i"), number(1)
	less := node(impl.CdLess, i, one)
	set, put, read := named(impl.StSet, "i", one), named(impl.StPut, "a", i, one), named(impl.StRead, "i")
	next := named(impl.StSet, "i", node(impl.ExAdd, i, one))
	skip, stop := node(impl.StSkip), node(impl.StStop)
	for _, x := range []struct {
		n     impl.Node
		edges []impl.Edge
	}{
		{set, []impl.Edge{edgeWith(0, 1, 1, set), edge(1, 2, 6)}},
		{put, []impl.Edge{edgeWith(0, 1, 2, put), edge(1, 2, 6)}},
		{read, []impl.Edge{edgeWith(0, 1, 3, read), edge(1, 2, 6)}},
		{node(impl.StCheck, less), []impl.Edge{edgeWith(0, 1, 5, less), edge(1, 2, 6)}},
		{skip, []impl.Edge{edge(0, 1, 6), edge(1, 2, 6)}},
		{stop, []impl.Edge{edge(0, 2, 7), edge(1, 2, 6)}},
		{node(impl.StIf, less, block(), block()),
			[]impl.Edge{guardEdge(0, 1, true, less), guardEdge(0, 2, false, less), edge(1, 3, 6), edge(2, 3, 6), edge(3, 4, 6)}},
		{node(impl.StIf, less, block(set), block(read)),
			[]impl.Edge{guardEdge(0, 1, true, less), edgeWith(1, 2, 1, set), guardEdge(0, 3, false, less), edgeWith(3, 4, 3, read), edge(2, 5, 6), edge(4, 5, 6), edge(5, 6, 6)}},
		{node(impl.StWhile, less, block()),
			[]impl.Edge{edge(0, 1, 6), guardEdge(1, 2, true, less), edge(2, 1, 6), guardEdge(1, 3, false, less), edge(3, 4, 6)}},
		{node(impl.StWhile, less, block(put)),
			[]impl.Edge{edge(0, 1, 6), guardEdge(1, 2, true, less), edgeWith(2, 3, 2, put), edge(3, 1, 6), guardEdge(1, 4, false, less), edge(4, 5, 6)}},
		{named(impl.StFor, "i", one, one, block(skip)),
			[]impl.Edge{edgeWith(0, 1, 1, set), edge(1, 2, 6), guardEdge(2, 3, true, less), edge(3, 4, 6), edgeWith(4, 5, 1, next), edge(5, 2, 6), guardEdge(2, 6, false, less), edge(6, 7, 6)}},
	} {
		n := declaring(x.n)
		want := impl.Graph{Points: 1 + x.edges[len(x.edges)-1].To, Edges: x.edges}
		if got := impl.GraphOf(n); !sameGraph(got, want) {
			t.Fatalf("GraphOf %s is %v, want %v", shown(n), got, want)
		}
		wantGraph(t, n)
	}
}

// Statements within and behind one another, by their texts.
func TestGraphTexts(t *testing.T) {
	for _, x := range []struct {
		text, graph, order string
	}{
		{"", "0 skip 1\n", "0 1"},
		{"skip; skip;", "0 skip 1\n1 skip 2\n2 skip 3\n", "0 1 2 3"},
		{"i = a[0]; a[i] = -i; read j; check i + 1 != j;", "0 set 1 i = a[0]\n1 put 2 a[i] = -i\n2 read 3 read j\n3 check 4 i + 1 != j\n4 skip 5\n", "0 1 2 3 4 5"},

		{"stop; skip;", "0 stop 3\n1 skip 2\n2 skip 3\n", "0 1 2 3"},
		{"skip; stop;", "0 skip 1\n1 stop 3\n2 skip 3\n", "0 1 2 3"},
		{"stop; stop;", "0 stop 3\n1 stop 3\n2 skip 3\n", "0 1 2 3"},
		{"read i; stop; read j;", "0 read 1 read i\n1 stop 4\n2 read 3 read j\n3 skip 4\n", "0 1 2 3 4"},
		{"if i < 1 { stop; } read i;", "0 yes 1 i < 1\n1 stop 6\n0 no 3 i < 1\n2 skip 4\n3 skip 4\n4 read 5 read i\n5 skip 6\n", "0 1 2 3 4 5 6"},
		{"if i < 1 { } else { stop; }", "0 yes 1 i < 1\n0 no 2 i < 1\n2 stop 5\n1 skip 4\n3 skip 4\n4 skip 5\n", "0 1 2 3 4 5"},
		{"if i < 1 { stop; } else { stop; }", "0 yes 1 i < 1\n1 stop 6\n0 no 3 i < 1\n3 stop 6\n2 skip 5\n4 skip 5\n5 skip 6\n", "0 1 2 3 4 5 6"},
		{"while i < 1 { stop; }", "0 skip 1\n1 yes 2 i < 1\n2 stop 5\n3 skip 1\n1 no 4 i < 1\n4 skip 5\n", "0 (1 2 3) 4 5"},
		{"while i < 1 { stop; read i; }", "0 skip 1\n1 yes 2 i < 1\n2 stop 6\n3 read 4 read i\n4 skip 1\n1 no 5 i < 1\n5 skip 6\n", "0 (1 2 3 4) 5 6"},
		{"for i from 0 to 2 { stop; }", "0 set 1 i = 0\n1 skip 2\n2 yes 3 i < 2\n3 stop 7\n4 set 5 i = i + 1\n5 skip 2\n2 no 6 i < 2\n6 skip 7\n", "0 1 (2 3 4 5) 6 7"},

		{"if i < 1 { skip; }", "0 yes 1 i < 1\n1 skip 2\n0 no 3 i < 1\n2 skip 4\n3 skip 4\n4 skip 5\n", "0 1 2 3 4 5"},
		{"if i < 1 { skip; } else { }", "0 yes 1 i < 1\n1 skip 2\n0 no 3 i < 1\n2 skip 4\n3 skip 4\n4 skip 5\n", "0 1 2 3 4 5"},
		{"if i < 1 { } else { skip; skip; }", "0 yes 1 i < 1\n0 no 2 i < 1\n2 skip 3\n3 skip 4\n1 skip 5\n4 skip 5\n5 skip 6\n", "0 1 2 3 4 5 6"},
		{"if i < 1 { if j < 2 { } } else { if i > j { } }",
			"0 yes 1 i < 1\n1 yes 2 j < 2\n1 no 3 j < 2\n2 skip 4\n3 skip 4\n0 no 5 i < 1\n5 yes 6 i > j\n5 no 7 i > j\n6 skip 8\n7 skip 8\n4 skip 9\n8 skip 9\n9 skip 10\n", "0 1 2 3 4 5 6 7 8 9 10"},

		{"while i < 1 { } while j < 2 { }", "0 skip 1\n1 yes 2 i < 1\n2 skip 1\n1 no 3 i < 1\n3 skip 4\n4 yes 5 j < 2\n5 skip 4\n4 no 6 j < 2\n6 skip 7\n", "0 (1 2) 3 (4 5) 6 7"},
		{"while i < 1 { while j < 2 { } }", "0 skip 1\n1 yes 2 i < 1\n2 skip 3\n3 yes 4 j < 2\n4 skip 3\n3 no 5 j < 2\n5 skip 1\n1 no 6 i < 1\n6 skip 7\n", "0 (1 2 (3 4) 5) 6 7"},
		{"while i < 1 { while j < 2 { } while j > 2 { } }",
			"0 skip 1\n1 yes 2 i < 1\n2 skip 3\n3 yes 4 j < 2\n4 skip 3\n3 no 5 j < 2\n5 skip 6\n6 yes 7 j > 2\n7 skip 6\n6 no 8 j > 2\n8 skip 1\n1 no 9 i < 1\n9 skip 10\n", "0 (1 2 (3 4) 5 (6 7) 8) 9 10"},
		{"while i < 1 { if j < 2 { } }", "0 skip 1\n1 yes 2 i < 1\n2 yes 3 j < 2\n2 no 4 j < 2\n3 skip 5\n4 skip 5\n5 skip 1\n1 no 6 i < 1\n6 skip 7\n", "0 (1 2 3 4 5) 6 7"},
		{"if i < 1 { while j < 2 { } }", "0 yes 1 i < 1\n1 skip 2\n2 yes 3 j < 2\n3 skip 2\n2 no 4 j < 2\n0 no 5 i < 1\n4 skip 6\n5 skip 6\n6 skip 7\n", "0 1 (2 3) 4 5 6 7"},
		{"for i from 0 to len(a) { for j from i to 2 { a[i] = j; } }",
			"0 set 1 i = 0\n1 skip 2\n2 yes 3 i < len(a)\n3 set 4 j = i\n4 skip 5\n5 yes 6 j < 2\n6 put 7 a[i] = j\n7 set 8 j = j + 1\n8 skip 5\n5 no 9 j < 2\n9 set 10 i = i + 1\n10 skip 2\n2 no 11 i < len(a)\n11 skip 12\n",
			"0 1 (2 3 4 (5 6 7 8) 9 10) 11 12"},
	} {
		n := tree(t, "var i; array a[3]; var j; "+x.text)
		g := wantGraph(t, n)
		if got := impl.GraphText(g); got != x.graph {
			t.Fatalf("%q: %q, want %q", x.text, got, x.graph)
		}
		if got := impl.OrderText(g); got != x.order {
			t.Fatalf("%q: %q, want %q", x.text, got, x.order)
		}
		if again := impl.GraphOf(impl.Plain(n)); !sameGraph(again, g) {
			t.Fatalf("%q: the graph of its Plain is %v", x.text, again)
		}
	}
}

// Behind a stop is a point to which nothing leads; the stop leads to the exit.
func TestStopsLeadToTheExit(t *testing.T) {
	for _, text := range []string{"stop;", "skip; stop; skip;", "if 1 < 2 { stop; }", "if 1 < 2 { } else { skip; stop; }", "while 1 < 2 { stop; skip; }",
		"while 1 < 2 { if 1 < 2 { stop; } else { stop; } } stop; while 1 < 2 { while 1 < 2 { stop; } }"} {
		n := tree(t, text)
		g := wantGraph(t, n)
		stops := 0
		for _, e := range g.Edges {
			if e.Kind != impl.EgStop {
				continue
			}
			stops++
			if e.To != g.Points-1 || slices.ContainsFunc(g.Edges, func(other impl.Edge) bool { return other.To == e.From+1 }) {
				t.Fatalf("%q: %v in %q", text, e, impl.GraphText(g))
			}
		}
		if stops != strings.Count(text, "stop") {
			t.Fatalf("%q: %d stops", text, stops)
		}
	}
}

func TestGraphsOfWrongPrograms(t *testing.T) {
	wantNone := func(n impl.Node) {
		t.Helper()
		g := impl.GraphOf(n)
		if !sameGraph(g, impl.Graph{}) {
			t.Fatalf("GraphOf %s is %v", shown(n), g)
		}
		wantNoGraph(t, g)
	}
	right := declaring(node(impl.StIf, node(impl.CdLess, variable("i"), number(1)), block(node(impl.StStop)), block()))
	wantGraph(t, right)
	for _, bad := range append(spoils(right), impl.Node{}, right.Kids[2], right.Kids[2].Kids[0], node(impl.StSkip), number(1), program(), node(impl.NdProg)) {
		wantNone(bad)
	}
	for _, bad := range spoils(right.Kids[2].Kids[0]) {
		wantNone(declaring(bad))
	}
	for _, text := range []string{"", "x = 1;", "var i; i = j;", "array a[3]; a = 1;", "var i; i[0] = 1;", "var i; var i; skip;", "array a[61]; skip;",
		"var a; var b; var c; var d; var e; var f; var g; var h; var i; skip;", "var i;" + nestedFors(10)} {
		wantNone(tree(t, text))
	}
	ring := make([]impl.Node, 1)
	ring[0] = node(impl.StWhile, node(impl.CdLess, number(1), number(2)), impl.Node{Kind: impl.StBlock, Kids: ring})
	wantNone(declaring(ring...))
}

// The largest programs have far fewer points than may be.
func TestGraphsOfLargestPrograms(t *testing.T) {
	for text, points := range map[string]int{
		strings.Repeat("skip;", 498):                               500,
		strings.Repeat("stop;", 498):                               500,
		strings.Repeat("if 1<2{}", 83):                             251,
		strings.Repeat("while 1<2{}", 99):                          299,
		strings.Repeat("while 1<2{", 10) + strings.Repeat("}", 10): 32,
		"var i;" + nestedFors(9):                                   47,
	} {
		if g := wantGraph(t, tree(t, text)); g.Points != points {
			t.Fatalf("%.30q: %d points, want %d", text, g.Points, points)
		}
	}
}

func TestGraphOkLimits(t *testing.T) {
	wantOk := func(g impl.Graph) {
		t.Helper()
		wantLoops(t, g, "")
	}
	for _, points := range []int{-1 << 63, -3000, -1, 0, 3001, 1 << 40, 1<<63 - 1} {
		wantNoGraph(t, impl.Graph{Points: points})
		wantNoGraph(t, skips(points, [2]int{0, 0}))
	}
	for _, points := range []int{1, 2, 2999, 3000} {
		wantOk(impl.Graph{Points: points})
		wantOk(impl.Graph{Points: points, Edges: []impl.Edge{}})
		wantOk(skips(points, [2]int{0, 0}))
		for _, at := range []int{0, points / 2, points - 1} {
			wantOk(skips(points, [2]int{0, 0}, [2]int{at, 0}))
			wantOk(skips(points, [2]int{0, 0}, [2]int{0, at}))
			wantOk(skips(points, [2]int{at, at}, [2]int{0, 0}))
		}
		for _, at := range []int{-1 << 63, -1, points, points + 1, 3000, 1<<63 - 1} {
			wantNoGraph(t, skips(points, [2]int{at, 0}))
			wantNoGraph(t, skips(points, [2]int{0, at}))
			wantNoGraph(t, skips(points, [2]int{0, 0}, [2]int{at, 0}))
			wantNoGraph(t, skips(points, [2]int{0, at}, [2]int{0, 0}))
			wantNoGraph(t, skips(points, [2]int{at, at}, [2]int{0, 0}))
		}
	}
	for _, points := range []int{1, 3000} {
		g := impl.Graph{Points: points, Edges: slices.Repeat([]impl.Edge{edge(0, points-1, 6)}, 6001)}
		wantNoGraph(t, g)
		g.Edges = g.Edges[:6000]
		wantOk(g)
		g.Edges = g.Edges[:5999]
		wantOk(g)
	}
	for kind := -2; kind < 12; kind++ {
		for _, g := range []impl.Graph{{Points: 2, Edges: []impl.Edge{edge(0, 1, kind)}}, {Points: 2, Edges: []impl.Edge{edge(0, 1, 6), edge(1, 0, kind)}}} {
			if kind >= 1 && kind <= 7 {
				wantOk(g)
			} else {
				wantNoGraph(t, g)
			}
		}
	}
	for _, kind := range []int{-1 << 63, 1<<63 - 1, impl.StSet, 1<<32 + 1} {
		wantNoGraph(t, impl.Graph{Points: 2, Edges: []impl.Edge{edge(0, 1, kind)}})
	}
	// Yes and Node may be anything.
	for kind := 1; kind <= 7; kind++ {
		for _, n := range []impl.Node{{}, {Kind: -1, Name: "?", Num: -7}, program(), node(impl.StSkip), nested(number(-1), 100)} {
			wantOk(impl.Graph{Points: 2, Edges: []impl.Edge{edgeWith(0, 1, kind, n), {From: 1, To: 1, Kind: kind, Yes: true, Node: n}}})
		}
	}
}

// Graphs that no program has.
func TestLoopsOfAnyGraph(t *testing.T) {
	for _, x := range []struct {
		g     impl.Graph
		heads []int
		nest  [][]int
		order string
	}{
		{skips(1), nil, [][]int{nil}, "0"},
		{skips(1, [2]int{0, 0}), []int{0}, [][]int{{0}}, "(0)"},
		{skips(2, [2]int{0, 1}), nil, [][]int{nil, nil}, "0 1"},
		{skips(3, [2]int{1, 1}), []int{1}, [][]int{nil, {1}, nil}, "0 (1) 2"},
		{skips(3, [2]int{2, 0}), []int{0}, [][]int{{0}, {0}, {0}}, "(0 1 2)"},
		{skips(3, [2]int{2, 2}, [2]int{1, 1}, [2]int{0, 0}), []int{0, 1, 2}, [][]int{{0}, {1}, {2}}, "(0) (1) (2)"},
		// Two edges back to one head, the farther one first or last.
		{skips(4, [2]int{1, 0}, [2]int{2, 0}), []int{0}, [][]int{{0}, {0}, {0}, nil}, "(0 1 2) 3"},
		{skips(4, [2]int{2, 0}, [2]int{1, 0}), []int{0}, [][]int{{0}, {0}, {0}, nil}, "(0 1 2) 3"},
		{skips(4, [2]int{2, 1}, [2]int{1, 1}, [2]int{2, 1}), []int{1}, [][]int{nil, {1}, {1}, nil}, "0 (1 2) 3"},
		// Loops with one last, and loops that cross.
		{skips(4, [2]int{2, 0}, [2]int{2, 1}), []int{0, 1}, [][]int{{0}, {0, 1}, {0, 1}, nil}, "(0 (1 2)) 3"},
		{skips(3, [2]int{2, 2}, [2]int{2, 0}, [2]int{2, 1}), []int{0, 1, 2}, [][]int{{0}, {0, 1}, {0, 1, 2}}, "(0 (1 (2)))"},
		{skips(4, [2]int{2, 0}, [2]int{3, 1}), []int{0, 1}, [][]int{{0}, {0, 1}, {0, 1}, {1}}, "(0 (1 2) 3)"},
		{skips(5, [2]int{4, 2}, [2]int{2, 0}), []int{0, 2}, [][]int{{0}, {0}, {0, 2}, {2}, {2}}, "(0 1 (2) 3 4)"},
		{skips(4, [2]int{1, 0}, [2]int{2, 1}, [2]int{3, 2}), []int{0, 1, 2}, [][]int{{0}, {0, 1}, {1, 2}, {2}}, "(0 (1) (2) 3)"},
		// Edges on do nothing, of whatever Kind those back are.
		{impl.Graph{Points: 4, Edges: []impl.Edge{edge(0, 3, 1), edge(3, 2, 7), edge(1, 1, 4), edge(1, 2, 2)}}, []int{1, 2}, [][]int{nil, {1}, {2}, {2}}, "0 (1) (2 3)"},
	} {
		if heads := impl.HeadsOf(x.g); !slices.Equal(heads, x.heads) {
			t.Fatalf("%v has the heads %v, want %v", x.g, heads, x.heads)
		}
		if nest := impl.NestOf(x.g); !slices.EqualFunc(nest, x.nest, slices.Equal) {
			t.Fatalf("%v has the nests %v, want %v", x.g, nest, x.nest)
		}
		wantLoops(t, x.g, x.order)
	}
	next := draws(44)
	for range 3000 {
		g := impl.Graph{Points: 1 + next(12)}
		for range next(10) {
			g.Edges = append(g.Edges, edge(next(g.Points), next(g.Points), 1+next(7)))
		}
		wantLoops(t, g, "")
	}
}

// As many heads as points, each the head of a loop that goes to the end.
func TestMostLoops(t *testing.T) {
	g := impl.Graph{Points: 3000}
	for point := range 3000 {
		g.Edges = append(g.Edges, edge(2999, point, 6), edge(point, point, 7))
	}
	heads, nest := impl.HeadsOf(g), impl.NestOf(g)
	if !impl.GraphOk(g) || len(heads) != 3000 || len(nest) != 3000 {
		t.Fatalf("%d heads, %d nests", len(heads), len(nest))
	}
	for point := range 3000 {
		if heads[point] != point || !slices.Equal(nest[point], heads[:point+1]) {
			t.Fatalf("head %d, nest of %d heads at %d", heads[point], len(nest[point]), point)
		}
	}
	if text := impl.OrderText(g); !strings.HasPrefix(text, "(0 (1 (2 (3 ") || !strings.HasSuffix(text, " (2998 (2999"+strings.Repeat(")", 3000)) {
		t.Fatalf("%d bytes: %.40q", len(text), text)
	}
	if lines := strings.Split(impl.GraphText(g), "\n"); len(lines) != 6001 || lines[0] != "2999 skip 0" || lines[5999] != "2999 stop 2999" {
		t.Fatalf("%d lines", len(lines))
	}
}

// wantLine: the GraphText of an edge alone.
func wantLine(t *testing.T, e impl.Edge, want string) {
	t.Helper()
	before := copyTree(e.Node)
	if got := impl.GraphText(impl.Graph{Points: 20, Edges: []impl.Edge{e}}); got != want+"\n" {
		t.Errorf("%d %v %.200v: %.200q, want %.200q", e.Kind, e.Yes, e.Node, got, want)
	}
	if !sameTree(e.Node, before) {
		t.Errorf("%v has become %v", before, e.Node)
	}
}

// Each Kind with each Node: a text stands where the two are of one sort alone.
func TestLinesOfEachKind(t *testing.T) {
	i, one := variable("i"), number(1)
	less := node(impl.CdLess, i, one)
	set, put, read := named(impl.StSet, "i", node(impl.ExNeg, one)), named(impl.StPut, "a", node(impl.ExSub, i, one), node(impl.ExMul, i, i)), named(impl.StRead, "i")
	texts := map[int][]string{1: {"set", "set"}, 2: {"put", "put"}, 3: {"read", "read"}, 4: {"no", "yes"}, 5: {"check", "check"}, 6: {"skip", "skip"}, 7: {"stop", "stop"}}
	for kind, words := range texts {
		for at, word := range words {
			for _, x := range []struct {
				n     impl.Node
				kinds []int
				text  string
			}{
				{set, []int{1}, "i = -1"},
				{put, []int{2}, "a[i - 1] = i * i"},
				{read, []int{3}, "read i"},
				{less, []int{4, 5}, "i < 1"},
				{node(impl.CdOther, named(impl.ExLen, "a"), named(impl.ExCell, "a", i)), []int{4, 5}, "len(a) != a[i]"},
				{impl.Node{}, nil, ""},
				{i, nil, ""},
				{one, nil, ""},
				{node(impl.StCheck, less), nil, ""},
				{node(impl.StSkip), nil, ""},
				{node(impl.StStop), nil, ""},
				{node(impl.StIf, less, block(), block()), nil, ""},
				{node(impl.StWhile, less, block()), nil, ""},
				{named(impl.StFor, "i", one, one, block()), nil, ""},
				{block(set), nil, ""},
				{program(set), nil, ""},
				{named(impl.DcVar, "i"), nil, ""},
				{array("a", 3), nil, ""},
			} {
				line := "3 " + word + " 14"
				if slices.Contains(x.kinds, kind) {
					line += " " + x.text
				}
				wantLine(t, impl.Edge{From: 3, To: 14, Kind: kind, Yes: at == 1, Node: x.n}, line)
			}
		}
	}
	if got := impl.GraphText(impl.Graph{Points: 3}); got != "" {
		t.Fatalf("without edges: %q", got)
	}
	// Lines stand in the order of the edges, not of the points.
	g := impl.Graph{Points: 20, Edges: []impl.Edge{edgeWith(19, 0, 3, read), guardEdge(0, 19, true, less), edge(10, 10, 6), guardEdge(0, 1, false, impl.Node{}), edge(10, 10, 6)}}
	if got := impl.GraphText(g); got != "19 read 0 read i\n0 yes 19 i < 1\n10 skip 10\n0 no 1\n10 skip 10\n" {
		t.Fatal(got)
	}
}

// Nodes with one thing wrong have no text, but a line all the same.
func TestLinesOfSpoiltNodes(t *testing.T) {
	i, one := variable("i"), number(1)
	for kind, n := range map[int]impl.Node{impl.EgSet: named(impl.StSet, "i", one), impl.EgPut: named(impl.StPut, "a", i, one), impl.EgRead: named(impl.StRead, "i"),
		impl.EgGuard: node(impl.CdMost, i, one), impl.EgCheck: node(impl.CdSame, i, one)} {
		word := strings.Fields("set put read no check")[kind-1]
		for _, bad := range spoils(n) {
			wantLine(t, edgeWith(0, 1, kind, bad), "0 "+word+" 1")
		}
		for at := range n.Kids {
			for _, bad := range spoils(n.Kids[at]) {
				one := copyTree(n)
				one.Kids[at] = bad
				wantLine(t, edgeWith(0, 1, kind, one), "0 "+word+" 1")
			}
		}
	}
	wantLine(t, edgeWith(0, 1, 4, nested(one, 1000000)), "0 no 1")
	ring := make([]impl.Node, 1)
	ring[0] = impl.Node{Kind: impl.ExNeg, Kids: ring}
	for kind, n := range map[int]impl.Node{impl.EgSet: named(impl.StSet, "i", ring...), impl.EgPut: named(impl.StPut, "a", ring[0], ring[0]), impl.EgCheck: node(impl.CdLess, ring[0], ring[0])} {
		got := impl.GraphText(impl.Graph{Points: 2, Edges: []impl.Edge{edgeWith(0, 1, kind, n)}})
		if want := "0 " + strings.Fields("set put read no check")[kind-1] + " 1\n"; got != want {
			t.Fatalf("%q, want %q", got, want)
		}
	}
}

// A statement has a text where it may stand in a program: two trees and two
// deep are kept for that. A condition has one by itself.
func TestLinesAtTheLimits(t *testing.T) {
	one := number(1)
	set := func(n impl.Node) impl.Edge { return edgeWith(0, 1, impl.EgSet, named(impl.StSet, "x", n)) }
	put := func(n impl.Node) impl.Edge { return edgeWith(0, 1, impl.EgPut, named(impl.StPut, "a", one, n)) }
	check := func(n impl.Node) impl.Edge { return edgeWith(0, 1, impl.EgCheck, node(impl.CdLess, n, one)) }
	signs := func(count int) string { return strings.Repeat("-", count) + "1" }

	wantLine(t, set(nested(one, 20)), "0 set 1 x = "+signs(20))
	wantLine(t, set(nested(one, 21)), "0 set 1")
	wantLine(t, put(nested(one, 20)), "0 put 1 a[1] = "+signs(20))
	wantLine(t, put(nested(one, 21)), "0 put 1")
	wantLine(t, check(nested(one, 22)), "0 check 1 "+signs(22)+" < 1")
	wantLine(t, check(nested(one, 23)), "0 check 1")
	yes := guardEdge(0, 1, true, check(nested(one, 22)).Node)
	wantLine(t, yes, "0 yes 1 "+signs(22)+" < 1")
	yes.Node = check(nested(one, 23)).Node
	wantLine(t, yes, "0 yes 1")

	wantLine(t, set(wideExpr(497)), "0 set 1 x = "+impl.ExprText(wideExpr(497)))
	wantLine(t, set(wideExpr(498)), "0 set 1")
	wantLine(t, put(wideExpr(496)), "0 put 1 a[1] = "+impl.ExprText(wideExpr(496)))
	wantLine(t, put(wideExpr(497)), "0 put 1")
	wantLine(t, check(wideExpr(498)), "0 check 1 "+impl.ExprText(wideExpr(498))+" < 1")
	wantLine(t, check(wideExpr(499)), "0 check 1")

	most, _ := longExpr(225, 5)
	wantLine(t, set(most), "0 set 1 x = "+impl.ExprText(most))
	more, _ := longExpr(224, 5)
	wantLine(t, set(more), "0 set 1")
	most, _ = longExpr(223, 5)
	wantLine(t, check(most), "0 check 1 "+impl.ExprText(most)+" < 1")
	more, _ = longExpr(222, 5)
	if len(impl.ExprText(most)) != 3996 || !impl.CondOk(check(more).Node) {
		t.Fatalf("%d bytes", len(impl.ExprText(most)))
	}
	wantLine(t, check(more), "0 check 1")
}

// Statements of all sorts have the text that a program of them alone has.
func TestLinesOfSomeStatements(t *testing.T) {
	next := draws(45)
	for range 2000 {
		n := someStmt(next, 1)
		cond := someCond(next, 3)
		for kind, want := range map[int]int{impl.EgSet: impl.StSet, impl.EgPut: impl.StPut, impl.EgRead: impl.StRead} {
			line := "0 " + strings.Fields("set put read")[kind-1] + " 1"
			if n.Kind == want {
				line += " " + strings.TrimSuffix(impl.Print(program(n)), ";\n")
			}
			wantLine(t, edgeWith(0, 1, kind, n), line)
		}
		wantLine(t, edgeWith(0, 1, impl.EgCheck, cond), "0 check 1 "+impl.ExprText(cond))
		wantLine(t, guardEdge(0, 1, false, cond), "0 no 1 "+impl.ExprText(cond))
	}
}

// Answers are new memory, no two lists of one share any, and nothing is kept.
func TestGraphsKeepNothing(t *testing.T) {
	const text = "var i; array a[3]; if i + 1 < a[i] { a[i] = a[0] + 1; } else { read i; } while -i < len(a) { i = i + 1; stop; } for i from i + 1 to 3 { check i != -1; } skip;"
	n := tree(t, text)
	before := copyTree(n)
	g := wantGraph(t, n)
	want := copyGraph(g)
	seen := map[*impl.Node]int{}
	edges := g.Edges[:cap(g.Edges)]
	for i := range edges {
		wipe(t, seen, &edges[i].Node)
		edges[i] = impl.Edge{}
	}
	again := impl.GraphOf(n)
	if !sameTree(n, before) || !sameGraph(again, want) {
		t.Fatalf("%v has become %v, its graph %v", before, n, again)
	}
	wipe(t, seen, &n)
	if !sameGraph(again, want) {
		t.Fatalf("the graph has become %v", again)
	}
	for i := range again.Edges {
		wipe(t, seen, &again.Edges[i].Node)
	}
}

func TestLoopsKeepNothing(t *testing.T) {
	g := skips(6, [2]int{3, 0}, [2]int{4, 1}, [2]int{5, 5}, [2]int{3, 2})
	before := copyGraph(g)
	heads, nest := impl.HeadsOf(g), impl.NestOf(g)
	wantHeads := slices.Clone(heads)
	var wantNest [][]int
	for _, list := range nest {
		wantNest = append(wantNest, slices.Clone(list))
	}
	seen := map[*int]int{}
	for _, list := range append(slices.Clone(nest), heads) {
		list = list[:cap(list)]
		for i := range list {
			if seen[&list[i]]++; seen[&list[i]] > 1 {
				t.Fatal("two lists share memory")
			}
			list[i] = -7
		}
	}
	clear(nest)
	if got := impl.HeadsOf(g); !slices.Equal(got, wantHeads) {
		t.Fatalf("the heads have become %v", got)
	}
	if got := impl.NestOf(g); !slices.EqualFunc(got, wantNest, slices.Equal) {
		t.Fatalf("the nests have become %v", got)
	}
	if !sameGraph(g, before) {
		t.Fatalf("%v has become %v", before, g)
	}
}

// What lies behind a list's length is neither read nor written.
func TestSpareRoomOfGraphs(t *testing.T) {
	room := []impl.Node{number(1), {Kind: -1}, {Kind: -1}}
	list := []impl.Edge{edgeWith(0, 1, impl.EgSet, named(impl.StSet, "i", room[:1]...)), edge(1, 0, 6), edge(9, 9, 9), edge(-1, -1, -1)}
	list[0].Node.Kids = room[:1]
	g := impl.Graph{Points: 2, Edges: list[:2]}
	for range 2 {
		wantLoops(t, g, "(0 1)")
		if got := impl.GraphText(g); got != "0 set 1 i = 1\n1 skip 0\n" {
			t.Fatal(got)
		}
	}
	if room[1].Kind != -1 || room[2].Kind != -1 || !sameEdge(list[2], edge(9, 9, 9)) || !sameEdge(list[3], edge(-1, -1, -1)) {
		t.Fatalf("%v %v", room, list)
	}
	stmts := []impl.Node{node(impl.StSkip), {Kind: -1}, node(impl.StStop)}
	n := node(impl.NdProg, block(stmts[:1]...))
	n.Kids[0].Kids = stmts[:1]
	for range 2 {
		if got := impl.GraphOf(n); !sameGraph(got, skips(3, [2]int{0, 1}, [2]int{1, 2})) {
			t.Fatal(got)
		}
	}
	if stmts[1].Kind != -1 || stmts[2].Kind != impl.StStop {
		t.Fatalf("%v", stmts)
	}
}
