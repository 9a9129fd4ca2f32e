package tests

import (
	"slices"
	"strconv"
	"strings"
	"testing"

	"loop.example/g00093/impl"
)

func sameConf(a, b impl.Conf) bool {
	return a.Point == b.Point && slices.Equal(a.Vars, b.Vars) && slices.EqualFunc(a.Cells, b.Cells, slices.Equal) &&
		a.Used == b.Used && a.Steps == b.Steps && a.Trap == b.Trap && a.Edge == b.Edge && a.Access == b.Access
}

func copyConf(c impl.Conf) impl.Conf {
	c.Vars = slices.Clone(c.Vars)
	c.Cells = slices.Clone(c.Cells)
	for i, row := range c.Cells {
		c.Cells[i] = slices.Clone(row)
	}
	return c
}

// with gives a state of which something is another.
func with(c impl.Conf, change func(c *impl.Conf)) impl.Conf {
	c = copyConf(c)
	change(&c)
	return c
}

// cells: numbers with a blank between, a point for a cell that is not written.
func cells(text string) []impl.Cell {
	var row []impl.Cell
	for _, one := range strings.Fields(text) {
		num, err := strconv.Atoi(one)
		row = append(row, impl.Cell{Written: err == nil, Num: num})
	}
	return row
}

// state: one at point 0, with these variables and arrays.
func state(vars []int, rows ...string) impl.Conf {
	c := impl.Conf{Vars: vars}
	for _, row := range rows {
		c.Cells = append(c.Cells, cells(row))
	}
	return c
}

// A path is an edge of a drawing with the words that stand behind it.
type path struct {
	from, to int
	word     string
	words    []string
}

// A walker runs a program once more: over the lines of its drawing, and with
// values that are worked out while the words of an expression are read.
type walker struct {
	vars, arrays []string
	paths        []path
	exit         int
	inputs       []int
	conf         impl.Conf
	words        []string
	good, trap   int
}

func walking(t *testing.T, n impl.Node, lens, inputs []int) *walker {
	t.Helper()
	w := walker{inputs: inputs}
	names, sizes := declsOf(n)
	for i, name := range names {
		if sizes[i] == -2 {
			w.vars, w.conf.Vars = append(w.vars, name), append(w.conf.Vars, 0)
			continue
		}
		size := sizes[i]
		if size == -1 {
			size, lens = lens[0], lens[1:]
		}
		w.arrays, w.conf.Cells = append(w.arrays, name), append(w.conf.Cells, make([]impl.Cell, size))
	}
	g, text, _ := drawn(t, n)
	w.exit = g.Points - 1
	for line := range strings.Lines(text) {
		parts := strings.SplitN(strings.TrimSuffix(line, "\n")+" ", " ", 4)
		from, _ := strconv.Atoi(parts[0])
		to, _ := strconv.Atoi(parts[2])
		one := path{from: from, word: parts[1], to: to}
		list, _ := impl.Words(parts[3])
		for _, w := range list {
			one.words = append(one.words, w.Text)
		}
		w.paths = append(w.paths, one)
	}
	return &w
}

func (w *walker) take() string {
	one := w.words[0]
	w.words = w.words[1:]
	return one
}

// next tells whether a word comes, and takes it.
func (w *walker) next(text string) bool {
	if len(w.words) == 0 || w.words[0] != text {
		return false
	}
	w.take()
	return true
}

func (w *walker) fail(trap int) int {
	if w.trap == 0 {
		w.trap = trap
	}
	return 0
}

// bound gives a number that came out; behind a trap none does any more.
func (w *walker) bound(num int) int {
	if num > 1000000 || num < -1000000 {
		return w.fail(3)
	}
	return num
}

func (w *walker) sum() int {
	num := w.product()
	for {
		switch {
		case w.next("+"):
			num = w.bound(num + w.product())
		case w.next("-"):
			num = w.bound(num - w.product())
		default:
			return num
		}
	}
}

func (w *walker) product() int {
	num := w.one()
	for w.next("*") {
		num = w.bound(num * w.one())
	}
	return num
}

func (w *walker) one() int {
	word := w.take()
	if num, err := strconv.Atoi(word); err == nil {
		return num
	}
	switch {
	case word == "-":
		return w.bound(-w.one())
	case word == "(":
		num := w.sum()
		w.take()
		return num
	case word == "len":
		w.take()
		row := w.row(w.take())
		w.take()
		return len(row)
	case w.next("["):
		index := w.sum()
		w.take()
		return w.cell(word, index)
	}
	return w.conf.Vars[slices.Index(w.vars, word)]
}

func (w *walker) row(name string) []impl.Cell { return w.conf.Cells[slices.Index(w.arrays, name)] }

func (w *walker) cell(name string, index int) int {
	row := w.row(name)
	if index < 0 || index >= len(row) {
		return w.fail(1)
	}
	if !row[index].Written {
		return w.fail(2)
	}
	if w.trap == 0 {
		w.good++
	}
	return row[index].Num
}

func (w *walker) cond() bool {
	left := w.sum()
	word := w.take()
	right := w.sum()
	switch word {
	case "<":
		return left < right
	case "<=":
		return left <= right
	case ">":
		return left > right
	case ">=":
		return left >= right
	case "==":
		return left == right
	}
	return left != right
}

// ends tells whether nothing comes behind a state any more.
func (w *walker) ends() bool {
	return w.conf.Trap != 0 || w.conf.Point == w.exit || w.conf.Steps == 5000
}

func (w *walker) step() {
	if w.ends() {
		return
	}
	number := slices.IndexFunc(w.paths, func(p path) bool { return p.from == w.conf.Point })
	one := w.paths[number]
	w.words, w.good, w.trap = one.words, 0, 0
	was := copyConf(w.conf)
	w.conf.Point = w.do(one)
	if w.trap != 0 {
		w.conf = was
		w.conf.Trap, w.conf.Edge, w.conf.Access = w.trap, number, w.good
		if w.trap > 3 {
			w.conf.Access = 0
		}
	}
	w.conf.Steps++
}

// do gives the point to which a path leads; what it did is taken back where it
// traps.
func (w *walker) do(one path) int {
	switch one.word {
	case "set":
		at := slices.Index(w.vars, w.take())
		w.take()
		w.conf.Vars[at] = w.sum()
	case "put":
		row := w.row(w.take())
		w.take()
		index := w.sum()
		w.take()
		w.take()
		num := w.sum()
		if index < 0 || index >= len(row) {
			return w.fail(1)
		}
		row[index] = impl.Cell{Written: true, Num: num}
	case "read":
		if w.conf.Used >= len(w.inputs) {
			return w.fail(5)
		}
		w.conf.Vars[slices.Index(w.vars, one.words[1])] = w.inputs[w.conf.Used]
		w.conf.Used++
	case "check":
		if !w.cond() {
			return w.fail(4)
		}
	case "yes", "no":
		word := "no"
		if w.cond() {
			word = "yes"
		}
		other := slices.IndexFunc(w.paths, func(p path) bool { return p.from == one.from && p.word == word })
		return w.paths[other].to
	}
	return one.to
}

// wantRun: a run keeps promises 3 and 5 up to so many steps, and goes as the
// walker goes; it gives the last state.
func wantRun(t *testing.T, n impl.Node, lens, inputs []int, most int) impl.Conf {
	t.Helper()
	w := walking(t, n, lens, inputs)
	plain, edges := impl.Plain(n), impl.GraphOf(n).Edges
	before, wasLens, wasInputs := copyTree(n), slices.Clone(lens), slices.Clone(inputs)
	c, ok := impl.Begin(n, lens)
	points := []int{0}
	for fuel := 0; ; fuel++ {
		if !ok || !sameConf(c, w.conf) || !impl.ConfOk(n, c) {
			t.Fatalf("%s, %v, %v, %d steps: %v, want %v", shown(n), lens, inputs, fuel, c, w.conf)
		}
		for _, one := range []impl.Node{n, plain} {
			if got := impl.RunTo(one, lens, inputs, fuel); !sameConf(got, c) {
				t.Fatalf("RunTo of %s, %v, %v, %d steps is %v, want %v", shown(one), lens, inputs, fuel, got, c)
			}
		}
		if got := impl.PathOf(n, lens, inputs, fuel); !slices.Equal(got, points) {
			t.Fatalf("PathOf of %s, %v, %v, %d steps is %v, want %v", shown(n), lens, inputs, fuel, got, points)
		}
		if fuel >= most {
			break
		}
		if !w.ends() {
			w.step()
			if w.conf.Trap == 0 {
				points = append(points, w.conf.Point)
			}
		} else if fuel > w.conf.Steps+1 {
			break
		}
		was := copyConf(c)
		if c = impl.Step(n, c, inputs); !sameConf(c, impl.Step(plain, was, inputs)) {
			t.Fatalf("a step of Plain of %s leads from %v to another state", shown(n), was)
		}
	}
	if got := impl.PathOf(plain, lens, inputs, most); !slices.Equal(got, points) {
		t.Fatalf("PathOf of Plain of %s, %v, %v, is %v, want %v", shown(n), lens, inputs, got, points)
	}
	for i := range points[1:] {
		if !slices.ContainsFunc(edges, func(e impl.Edge) bool { return e.From == points[i] && e.To == points[i+1] }) {
			t.Fatalf("no edge from %d to %d in %s", points[i], points[i+1], shown(n))
		}
	}
	if !sameTree(n, before) || !slices.Equal(lens, wasLens) || !slices.Equal(inputs, wasInputs) {
		t.Fatalf("%s, %v, %v: something is written into", shown(n), lens, inputs)
	}
	return c
}

// pick gives one of the texts, the later ones more seldom.
func pick(next func(int) int, texts ...string) string {
	return texts[min(next(len(texts)), next(len(texts)))]
}

// runExpr: an expression that often has no trap.
func runExpr(next func(int) int, deep int) string {
	if deep <= 0 || next(3) == 0 {
		return pick(next, "i", strconv.Itoa(next(4)), "j", "a[1]", "k", "len(b)", "a[0]", "1000000", "len(a)")
	}
	one, two := runExpr(next, deep-1), runExpr(next, deep-1)
	return pick(next, one+" + "+two, one+" - ("+two+")", "a["+runIndex(next, one)+"]", "("+one+") * ("+two+")", "-("+one+")", "b["+runIndex(next, two)+"]", "a[b["+runIndex(next, one)+"]]")
}

// runIndex: an expression that is often a place, or else another one.
func runIndex(next func(int) int, other string) string {
	return pick(next, "0", "1", "i", "len(a) - 1", "len(b) - 1", other)
}

func runCond(next func(int) int) string {
	return runExpr(next, 1) + " " + strings.Fields("< <= > >= == !=")[next(6)] + " " + runExpr(next, 2)
}

func runBlock(next func(int) int, deep int) string {
	text := ""
	for range 1 + next(3) {
		text += runStmt(next, deep)
	}
	return text
}

func runStmt(next func(int) int, deep int) string {
	name := pick(next, "i", "j", "k")
	kind := next(16)
	if deep <= 0 {
		kind = next(10)
	}
	switch kind {
	case 0, 1, 2:
		return name + " = " + runExpr(next, 2) + ";"
	case 3, 4, 5:
		return pick(next, "a", "b") + "[" + runIndex(next, runExpr(next, 1)) + "] = " + runExpr(next, 2) + ";"
	case 6:
		return "read " + name + ";"
	case 7:
		return "check " + pick(next, runCond(next), "i == i", "0 <= len(a)") + ";"
	case 8:
		return "skip;"
	case 9:
		return pick(next, "skip;", "i = 0;", "j = 1;", "k = 2;", "stop;")
	case 10, 11:
		return "if " + runCond(next) + "{" + runBlock(next, deep-1) + "}"
	case 12:
		return "if " + runCond(next) + "{" + runBlock(next, deep-1) + "} else {" + runBlock(next, deep-1) + "}"
	case 13:
		return "while " + pick(next, name+" < 3", "0 < 1", "k < len(b)", "a[0] >= 0") + "{" + runBlock(next, deep-1) + name + " = " + name + " + 1;}"
	case 14:
		return "for " + name + " from 0 to " + pick(next, "len(a)", "len(b)", "2") + "{" + pick(next, "a", "b") + "[" + name + "] = " + runExpr(next, 1) + ";}"
	}
	return "for " + name + " from " + runExpr(next, 1) + " to " + runExpr(next, 1) + "{" + runBlock(next, deep-1) + "}"
}

// runProgram: a program of all kinds of statements that often runs for a while.
func runProgram(t *testing.T, next func(int) int) impl.Node {
	t.Helper()
	text := "var i; array a[" + strconv.Itoa(2+next(3)) + "]; var j; array b[?]; var k;"
	if next(4) > 0 {
		text += "for i from 0 to len(a) { a[i] = i; } "
	}
	if next(2) > 0 {
		text += "for k from 0 to len(b) { b[k] = len(b) - k - 1; } i = 1;"
	}
	for range 2 + next(5) {
		text += runStmt(next, 2)
	}
	return tree(t, text)
}

func TestRunConstants(t *testing.T) {
	got := []int{impl.MaxFuel, impl.MaxInputs, impl.TrapIndex, impl.TrapUnwritten, impl.TrapOver, impl.TrapCheck, impl.TrapInput, impl.TrapForm}
	if want := []int{5000, 100, 1, 2, 3, 4, 5, 9}; !slices.Equal(got, want) {
		t.Fatalf("%v, want %v", got, want)
	}
}

// Promises 3 and 5, of programs with all kinds of statements.
func TestRunsStepByStep(t *testing.T) {
	next := draws(5)
	traps := make([]int, 6)
	ended, went, fors := 0, 0, 0
	for range 400 {
		n := runProgram(t, next)
		if impl.Check(n).Code != impl.OK {
			continue
		}
		lens := []int{next(5)}
		var inputs []int
		for range next(4) {
			inputs = append(inputs, next(7)-2)
		}
		wantPlain(t, n)
		if plain := impl.Plain(n); !sameGraph(impl.GraphOf(plain), impl.GraphOf(n)) {
			t.Fatalf("the graph of Plain of %s is another", shown(n))
		}
		c := wantRun(t, n, lens, inputs, 70)
		traps[c.Trap]++
		switch {
		case c.Point == impl.GraphOf(n).Points-1:
			ended++
		case c.Trap == 0:
			went++
		}
		if strings.Contains(impl.Print(n), "for") && c.Steps > 20 {
			fors++
		}
	}
	if slices.Min(traps) < 10 || ended < 50 || went < 20 || fors < 200 {
		t.Fatalf("traps %v, %d ended, %d went on, %d with a for", traps, ended, went, fors)
	}
}

// Any right program: most of them trap soon.
func TestRunsOfRightPrograms(t *testing.T) {
	next := draws(55)
	right := 0
	for range 400 {
		n := rightProgram(next)
		if impl.Check(n).Code != impl.OK {
			continue
		}
		right++
		var lens, inputs []int
		for _, size := range impl.SizesOf(n) {
			if size < 0 {
				lens = append(lens, []int{0, 1, 3, 60}[next(4)])
			}
		}
		for range next(4) {
			inputs = append(inputs, []int{0, 1, -1, 7, 1000000, -1000000}[next(6)])
		}
		wantRun(t, n, lens, inputs, 25)
	}
	if right < 250 {
		t.Fatalf("%d right programs", right)
	}
}

// What a for stands for, run by hand: the end is worked out each time, and the
// name has the number that it ended with.
func TestForsRun(t *testing.T) {
	for text, want := range map[string]string{
		"for i from 0 to 3 { j = j + i; }":                                         "3 3",
		"for i from 2 to 2 { j = 9; }":                                             "2 0",
		"for i from 5 to 2 { j = 9; }":                                             "5 0",
		"j = 4; for i from 0 to j { j = j - 1; }":                                  "2 2",
		"for i from 0 to 9 { i = i + 1; j = j + 1; }":                              "10 5",
		"i = 7; for i from i - 2 to i + 1 { j = i; stop; }":                        "5 5",
		"for i from 0 to 3 { for j from i to 2 { } }":                              "3 2",
		"for i from -1 to 1 { if i < 0 { j = 5; } else { j = j * 2; } }":           "1 10",
		"for i from 0 to len(a) { a[i] = i * i; } j = a[2];":                       "3 4",
		"while j < 2 { for i from 0 to 2 { } j = j + 1; }":                         "2 2",
		"for i from 0 to 2 { while j < 3 { j = j + 1; } } i = i * 10 + j;":         "23 3",
		"for i from 1000000 - 2 to 1000000 { j = i; }":                             "1000000 999999",
		"if 1 < 2 { for i from 0 to 1 { j = 1; } } else { for j from 0 to 9 { } }": "1 1",
	} {
		n := tree(t, "var i; var j; array a[3]; "+text)
		c := wantRun(t, n, nil, nil, 200)
		if got := strconv.Itoa(c.Vars[0]) + " " + strconv.Itoa(c.Vars[1]); got != want || c.Trap != 0 || c.Point != impl.GraphOf(n).Points-1 {
			t.Fatalf("%q: %v, want %s", text, c, want)
		}
	}
}

func TestBegin(t *testing.T) {
	const text = "array a[2]; var i; array b[?]; var j; array c[0]; array d[?]; skip;"
	for _, x := range []struct {
		text string
		lens []int
		want impl.Conf
	}{
		{"skip;", nil, impl.Conf{}},
		{"skip;", []int{}, impl.Conf{}},
		{"var i; i = 1;", nil, state([]int{0})},
		{"array a[0];", nil, state(nil, "")},
		{"array a[?];", []int{0}, state(nil, "")},
		{"array a[?];", []int{1}, state(nil, ".")},
		{"array a[?];", []int{60}, state(nil, strings.Repeat(". ", 60))},
		{"array a[60];", nil, state(nil, strings.Repeat(". ", 60))},
		{"array a[?]; array b[?];", []int{60, 0}, state(nil, strings.Repeat(". ", 60), "")},
		{text, []int{1, 3}, state([]int{0, 0}, ". .", ".", "", ". . .")},
		{text, []int{3, 0}, state([]int{0, 0}, ". .", ". . .", "", "")},
		{"var a; var b; var c; var d; var e; var f; var g; var h;", nil, state(make([]int, 8))},
		{"var i; for i from 3 to 4 { }", nil, state([]int{0})},
	} {
		n := tree(t, x.text)
		c, ok := impl.Begin(n, x.lens)
		if !ok || !sameConf(c, x.want) || !impl.ConfOk(n, c) {
			t.Fatalf("Begin of %q, %v: %v %v, want %v", x.text, x.lens, c, ok, x.want)
		}
		if got := impl.RunTo(n, x.lens, nil, 0); !sameConf(got, x.want) {
			t.Fatalf("RunTo of %q, %v: %v", x.text, x.lens, got)
		}
	}
	for _, lens := range [][]int{nil, {}, {1}, {1, 2, 3}, {1, 2, 0}, {-1, 2}, {2, -1}, {61, 2}, {2, 61}, {1 << 62, 0}, {-1 << 63, 0}, {0, 1<<63 - 1}, {1, 2, 61}} {
		wantNoRun(t, tree(t, text), lens, nil, 1)
	}
	for _, one := range []string{"skip;", "var i; i = 1;", "array a[3];"} {
		for _, lens := range [][]int{{0}, {3}, {-1}, {0, 0}} {
			wantNoRun(t, tree(t, one), lens, nil, 1)
		}
	}
	wantNoRun(t, tree(t, "array a[?];"), nil, nil, 1)
	wantNoRun(t, tree(t, "array a[?];"), make([]int, 100000), nil, 1)
}

// wantNoRun: nothing is told of a run of which something is wrong.
func wantNoRun(t *testing.T, n impl.Node, lens, inputs []int, fuel int) {
	t.Helper()
	if c := impl.RunTo(n, lens, inputs, fuel); !sameConf(c, impl.Conf{}) {
		t.Fatalf("RunTo of %s, %v, %v, %d: %v", shown(n), lens, inputs, fuel, c)
	}
	if list := impl.PathOf(n, lens, inputs, fuel); len(list) > 0 {
		t.Fatalf("PathOf of %s, %v, %v, %d: %v", shown(n), lens, inputs, fuel, list)
	}
	if len(inputs) > 0 || fuel != 1 {
		return
	}
	if c, ok := impl.Begin(n, lens); ok || !sameConf(c, impl.Conf{}) {
		t.Fatalf("Begin of %s, %v: %v %v", shown(n), lens, c, ok)
	}
}

// A program that is not right has nothing.
func TestRunsOfWrongPrograms(t *testing.T) {
	right := declaring(named(impl.StPut, "a", variable("i"), number(1)))
	c := state([]int{0}, ". . .")
	wantNone := func(n impl.Node) {
		t.Helper()
		for _, c := range []impl.Conf{c, {}} {
			if impl.ConfOk(n, c) {
				t.Fatalf("%v is a state of %s", c, shown(n))
			}
			if got := impl.Step(n, c, nil); !sameConf(got, impl.Conf{}) {
				t.Fatalf("a step of %s: %v", shown(n), got)
			}
			if num, trap := impl.ValueOf(n, c, number(1)); num != 0 || trap != 9 {
				t.Fatalf("a value of %s: %d %d", shown(n), num, trap)
			}
		}
		for edge := -1; edge < 3; edge++ {
			if list := impl.AccessesOf(n, edge); len(list) > 0 {
				t.Fatalf("the accesses of %s: %v", shown(n), list)
			}
		}
		wantNoRun(t, n, nil, nil, 1)
	}
	if !impl.ConfOk(right, c) || len(impl.AccessesOf(right, 0)) != 1 {
		t.Fatal("not right")
	}
	for _, bad := range append(spoils(right), impl.Node{}, right.Kids[2], right.Kids[2].Kids[0], number(1), program(), node(impl.NdProg)) {
		wantNone(bad)
	}
	for _, text := range []string{"", "var i; array a[3]; a[j] = 1;", "var i; array a[3]; a = 1;", "var i; array a[3]; i[0] = a[0];", "var i; var i; array a[3]; a[i] = 1;",
		"var i; array a[61]; a[i] = 1;", "var i; array a[3];" + nestedFors(10)} {
		wantNone(tree(t, text))
	}
	ring := make([]impl.Node, 1)
	ring[0] = node(impl.StWhile, node(impl.CdLess, number(1), number(2)), impl.Node{Kind: impl.StBlock, Kids: ring})
	wantNone(declaring(ring...))
}

// Each field at its limits, and one past them.
func TestConfOk(t *testing.T) {
	// The points 0 .. 4, the edges 0: 0 to 1, 1: 1 to 2, 2: 1 to 3, 3 and 4 to 4, 5: 4 to 5.
	n := tree(t, "var i; array a[2]; var j; array b[?]; i = 1; if i < 1 { } ")
	c := state([]int{1, -2}, ". 3", "0 . -4")
	set := func(change func(c *impl.Conf)) impl.Conf { return with(c, change) }
	trapped := func(point, trap, edge, access int) impl.Conf {
		return set(func(c *impl.Conf) { c.Point, c.Trap, c.Edge, c.Access = point, trap, edge, access })
	}
	var good, bad []impl.Conf
	numbers := func(list *[]impl.Conf, field func(c *impl.Conf) *int, nums ...int) {
		for _, num := range nums {
			*list = append(*list, set(func(c *impl.Conf) { *field(c) = num }))
		}
	}
	huge := []int{-1 << 63, 1<<63 - 1, 1 << 32, -1 << 32}
	point := func(c *impl.Conf) *int { return &c.Point }
	numbers(&good, point, 0, 1, 2, 3, 4, 5)
	numbers(&bad, point, append(huge, -1, 6, 7)...)
	for i := range 2 {
		val := func(c *impl.Conf) *int { return &c.Vars[i] }
		numbers(&good, val, 0, 7, 1000000, -1000000)
		numbers(&bad, val, append(huge, 1000001, -1000001)...)
	}
	for _, at := range [][2]int{{0, 1}, {1, 0}, {1, 2}} {
		num := func(c *impl.Conf) *int { return &c.Cells[at[0]][at[1]].Num }
		numbers(&good, num, 0, 7, 1000000, -1000000)
		numbers(&bad, num, append(huge, 1000001, -1000001)...)
	}
	for _, at := range [][2]int{{0, 0}, {1, 1}} {
		num := func(c *impl.Conf) *int { return &c.Cells[at[0]][at[1]].Num }
		numbers(&good, num, 0)
		numbers(&bad, num, append(huge, 1, -1, 1000000, -1000000, 1000001)...)
	}
	used, steps := func(c *impl.Conf) *int { return &c.Used }, func(c *impl.Conf) *int { return &c.Steps }
	numbers(&good, used, 0, 1, 99, 100)
	numbers(&bad, used, append(huge, -1, 101)...)
	numbers(&good, steps, 0, 1, 4999, 5000)
	numbers(&bad, steps, append(huge, -1, 5001)...)
	for _, vars := range [][]int{nil, {1}, {1, 2, 3}, make([]int, 9), make([]int, 100000)} {
		bad = append(bad, set(func(c *impl.Conf) { c.Vars = vars }))
	}
	for _, rows := range [][]string{nil, {". 3"}, {". 3", "", ""}, {"", ". 3"}, {".", ""}, {". . .", ""}, {". .", strings.Repeat("1 ", 61)}, {". .", strings.Repeat("1 ", 600)}, {strings.Repeat("1 ", 60), "1 1"}} {
		bad = append(bad, state(c.Vars, rows...))
	}
	for _, rows := range [][]string{{". .", ""}, {"1 2", "."}, {". .", strings.Repeat("1 ", 60)}, {". .", strings.Repeat(". ", 59)}} {
		good = append(good, state(c.Vars, rows...))
	}
	for trap := 1; trap <= 5; trap++ {
		good = append(good, trapped(0, trap, 0, 0), trapped(0, trap, 0, 1), trapped(0, trap, 0, 499), trapped(0, trap, 0, 500),
			trapped(1, trap, 1, 0), trapped(1, trap, 2, 7), trapped(2, trap, 3, 0), trapped(3, trap, 4, 0), trapped(4, trap, 5, 0))
		bad = append(bad, trapped(0, trap, 0, -1), trapped(0, trap, 0, 501), trapped(0, trap, 0, 1<<63-1), trapped(0, trap, 0, -1<<63),
			trapped(0, trap, 1, 0), trapped(0, trap, -1, 0), trapped(0, trap, 6, 0), trapped(0, trap, 1<<63-1, 0), trapped(0, trap, -1<<63, 0),
			trapped(1, trap, 0, 0), trapped(1, trap, 3, 0), trapped(2, trap, 1, 0), trapped(2, trap, 4, 0), trapped(4, trap, 4, 0), trapped(4, trap, 6, 0),
			trapped(5, trap, 0, 0), trapped(5, trap, 5, 0), trapped(5, trap, 6, 0), trapped(6, trap, 0, 0), trapped(-1, trap, 0, 0))
	}
	for _, trap := range append(huge, -1, 6, 9) {
		bad = append(bad, trapped(0, trap, 0, 0), trapped(1, trap, 1, 1))
	}
	bad = append(bad, trapped(1, 0, 1, 0), trapped(1, 0, 0, 1), trapped(0, 0, 0, 1), trapped(0, 0, 0, -1), trapped(0, 0, -1, 0), trapped(5, 0, 5, 0), impl.Conf{})
	for _, one := range good {
		if !impl.ConfOk(n, one) {
			t.Fatalf("%v is not ok", one)
		}
		if num, trap := impl.ValueOf(n, one, number(7)); num != 7 || trap != 0 {
			t.Fatalf("%v: 7 is %d %d", one, num, trap)
		}
		if got := impl.Step(n, one, nil); !impl.ConfOk(n, got) || sameConf(got, one) != (one.Trap != 0 || one.Point == 5 || one.Steps == 5000) {
			t.Fatalf("a step leads from %v to %v", one, got)
		}
	}
	for _, one := range bad {
		if impl.ConfOk(n, one) {
			t.Fatalf("%.300v is ok", one)
		}
		if num, trap := impl.ValueOf(n, one, number(7)); num != 0 || trap != 9 {
			t.Fatalf("%.300v: 7 is %d %d", one, num, trap)
		}
		if got := impl.Step(n, one, nil); !sameConf(got, impl.Conf{}) {
			t.Fatalf("a step leads from %.300v to %v", one, got)
		}
	}
	if !impl.ConfOk(tree(t, "skip;"), impl.Conf{Vars: []int{}, Cells: [][]impl.Cell{}}) {
		t.Fatal("an empty list is none")
	}
	for size := range 3 {
		n := tree(t, "array a["+strconv.Itoa(size)+"];")
		for row := range 4 {
			if c := state(nil, strings.Repeat(". ", row)); impl.ConfOk(n, c) != (row == size) {
				t.Fatalf("an array of size %d and %v", size, c)
			}
		}
	}
}

func exprOf(t *testing.T, text string) impl.Node {
	t.Helper()
	return tree(t, "x = "+text+";").Kids[0].Kids[0].Kids[0]
}

const valueText = "var i; array a[3]; var j; array b[?]; array c[0]; var k; skip;"

func valueState() impl.Conf {
	return state([]int{2, -1000000, 1000000}, "1 . 1000000", "0 -3", "")
}

func TestValues(t *testing.T) {
	n, c := tree(t, valueText), valueState()
	for text, want := range map[string]int{
		"0": 0, "7": 7, "1000000": 1000000, "i": 2, "j": -1000000, "k": 1000000, "a[0]": 1, "a[2]": 1000000, "b[0]": 0, "b[1]": -3,
		"len(a)": 3, "len(b)": 2, "len(c)": 0, "-0": 0, "-i": -2, "-j": 1000000, "-k": -1000000, "--i": 2, "---k": -1000000, "-b[1]": 3,
		"i + 3": 5, "i - 3": -1, "i * 3": 6, "i - -3": 5, "2 - 3 - 4": -5, "2 - (3 - 4)": 3, "2 + 3 * 4": 14, "(2 + 3) * 4": 20, "2 * 3 * 4": 24, "-2 * 3": -6, "-(2 + 3)": -5,
		"k + 0": 1000000, "j - 0": -1000000, "k + j": 0, "999999 + 1": 1000000, "j + 1 - 1": -1000000, "k - 1 + 1": 1000000, "-999999 - 1": -1000000, "k + (1 - 1)": 1000000,
		"k * 1": 1000000, "k * -1": -1000000, "j * -1": 1000000, "j * 1": -1000000, "0 * j": 0, "k * 0": 0, "1000 * 1000": 1000000, "1000 * -1000": -1000000, "-1000 * -1000": 1000000, "999 * 1001": 999999,
		"a[i]": 1000000, "a[i - 2]": 1, "a[len(a) - 1]": 1000000, "a[len(c)]": 1, "b[len(b) - 1]": -3, "b[a[0]]": -3, "a[b[0]]": 1, "a[b[a[0]] + 3]": 1, "b[b[b[0]]]": 0, "a[-b[1] - 1]": 1000000,
		"a[0] + b[1] * i": -5, "a[0] - a[0] * a[0]": 0,
	} {
		if num, trap := impl.ValueOf(n, c, exprOf(t, text)); num != want || trap != 0 {
			t.Fatalf("%s is %d %d, want %d", text, num, trap, want)
		}
	}
}

// Each trap, and of two the one that is worked out first.
func TestTrapsOfValues(t *testing.T) {
	n, c := tree(t, valueText), valueState()
	for trap, texts := range map[int]string{
		1: "a[-1] / a[3] / a[4] / a[k] / a[j] / b[2] / b[-1] / c[0] / c[-1] / c[1] / a[-i] / a[a[0] + 2] / a[b[1]] / a[a[2]] / a[len(a)] / b[len(b)] / -a[3] / a[a[3]]",
		2: "a[1] / -a[1] / a[a[0]] / a[i - 1] / a[a[1]] / c[a[1]] / i * a[1] / a[1] * i / 0 * a[1]",
		3: "k + 1 / k - -1 / j - 1 / j + -1 / -j + 1 / -(k + 1) / k - j / j - k / k + k / j + j / k * 2 / 2 * k / k * -2 / k * i / k * k / j * j / j * k / 1000 * 1001 / -1000 * 1001 / 1001 * 1000 / 1001 * 999 + 2 / k + 1 - 1 / j - 1 + 1 / k * 2 - k / 0 * (k + 1) / (k + 1) * 0 / a[k + 1] / a[0] + a[2] / k + a[0]",
	} {
		for _, text := range strings.Split(texts, " / ") {
			if num, got := impl.ValueOf(n, c, exprOf(t, text)); num != 0 || got != trap {
				t.Fatalf("%s is %d %d, want the trap %d", text, num, got, trap)
			}
		}
	}
	kinds := []string{"a[3]", "a[1]", "(k + 1)"}
	for i, one := range kinds {
		for j, two := range kinds {
			for text, trap := range map[string]int{
				one + " + " + two: i + 1, one + " - " + two: i + 1, one + " * " + two: i + 1, "a[" + one + "] + " + two: i + 1, "-" + one + " * " + two: i + 1,
				"i + " + one + " + " + two: i + 1, "i + (" + one + " - " + two + ")": i + 1, "a[0] * " + two + " - " + one: j + 1, "k + 1 + " + one: 3, "k * k - " + two: 3,
				"a[a[1]] - " + one: 2, "a[4] * " + two: 1, "(i + 0) * (" + one + " * " + two + ")": i + 1, "a[-1 + 0 * " + two + "]": j + 1, "a[a[" + one + "] + " + two + "]": i + 1,
			} {
				if num, got := impl.ValueOf(n, c, exprOf(t, text)); num != 0 || got != trap {
					t.Fatalf("%s is %d %d, want the trap %d", text, num, got, trap)
				}
			}
		}
	}
}

// Values by the walker, of any expression in any state.
func TestValuesByWords(t *testing.T) {
	next := draws(555)
	n := tree(t, "var i; array a[4]; var j; array b[?]; var k; skip;")
	traps := make([]int, 4)
	for range 6000 {
		row := func(size int) string {
			text := ""
			for range size {
				text += pick(next, "0", "1", "2", ".", "3", "-1", "1000000") + " "
			}
			return text
		}
		small := func() int { return []int{0, 1, 2, 3, -1, 1000000, -1000000}[min(next(7), next(7))] }
		size := next(4)
		c := state([]int{small(), small(), small()}, row(4), row(size))
		e := exprOf(t, runExpr(next, 4))
		w := walking(t, n, []int{size}, nil)
		w.conf = c
		for _, one := range strings.Fields(spread(impl.ExprText(e))) {
			w.words = append(w.words, one)
		}
		want := w.sum()
		if w.trap != 0 {
			want = 0
		}
		traps[w.trap]++
		before := copyConf(c)
		if num, trap := impl.ValueOf(n, c, e); num != want || trap != w.trap || !sameConf(c, before) {
			t.Fatalf("%s in %v is %d %d, want %d %d", impl.ExprText(e), c, num, trap, want, w.trap)
		}
	}
	if slices.Min(traps) < 200 {
		t.Fatalf("%v", traps)
	}
}

// spread puts blanks around the signs of an expression.
func spread(text string) string {
	list, _ := impl.Words(text)
	return impl.WordsText(list)
}

// sumOf: a sum of so many, as flat as can be.
func sumOf(one impl.Node, count int) impl.Node {
	if count == 1 {
		return one
	}
	return node(impl.ExAdd, sumOf(one, count/2), sumOf(one, count-count/2))
}

func TestFormOfValues(t *testing.T) {
	n, c := tree(t, valueText), valueState()
	wantForm := func(e impl.Node) {
		t.Helper()
		if num, trap := impl.ValueOf(n, c, e); num != 0 || trap != 9 {
			t.Fatalf("%s is %d %d", shown(e), num, trap)
		}
	}
	for _, text := range []string{"x", "x[0]", "len(x)", "a", "b", "i[0]", "len(i)", "k[a[0]]", "len(k)", "i + x", "x + i", "-x", "a[x]", "a[a]", "a[i[0]]", "a[0] + len(j)", "i * (j - len(x))",
		"a[3] + x", "a[1] * a", "k + 1 + x", "a[b[len(x)]]", "x[3]", "ii", "i2", "c", "c + a[3]"} {
		wantForm(exprOf(t, text))
	}
	cell := named(impl.ExCell, "a", variable("i"))
	less := node(impl.CdLess, number(1), number(2))
	list := append(spoils(number(1)), spoils(cell)...)
	list = append(list, spoils(named(impl.ExLen, "a"))...)
	list = append(list, spoils(node(impl.ExAdd, number(1), variable("i")))...)
	list = append(list, impl.Node{}, less, node(impl.StCheck, less), named(impl.StSet, "i", number(1)), named(impl.StPut, "a", number(0), number(1)), named(impl.StRead, "i"),
		block(), named(impl.DcVar, "i"), array("a", 3), n, node(impl.ExNeg, less), node(impl.ExAdd, number(1), less), named(impl.ExCell, "a", less),
		nested(number(1), 24), nested(number(1), 1000000), sumOf(number(1), 251))
	for _, bad := range list {
		wantForm(bad)
	}
	ring := make([]impl.Node, 1)
	ring[0] = impl.Node{Kind: impl.ExNeg, Kids: ring}
	wantForm(ring[0])
	for _, bad := range []impl.Conf{{}, with(c, func(c *impl.Conf) { c.Steps = -1 }), with(c, func(c *impl.Conf) { c.Vars[0] = 1000001 }), with(c, func(c *impl.Conf) { c.Cells = c.Cells[:2] })} {
		if num, trap := impl.ValueOf(n, bad, exprOf(t, "a[3]")); num != 0 || trap != 9 {
			t.Fatalf("%v: %d %d", bad, num, trap)
		}
	}
	// The limits of an expression, met; and a state that is trapped has values, too.
	c.Vars[0], c.Trap, c.Access, c.Steps = 1, 4, 500, 5000
	for want, e := range map[int]impl.Node{-1: nested(number(1), 23), -250: node(impl.ExNeg, sumOf(number(1), 250)), -3: exprOf(t, "b[i]")} {
		if num, trap := impl.ValueOf(n, c, e); num != want || trap != 0 {
			t.Fatalf("%.50s is %d %d, want %d", shown(e), num, trap, want)
		}
	}
}

// accessText: an access as w or r, the array's number and the index.
func accessText(list []impl.Access) string {
	text := ""
	for _, one := range list {
		word := "r"
		if one.Write {
			word = "w"
		}
		text += word + strconv.Itoa(one.Array) + " " + impl.ExprText(one.Index) + "; "
	}
	return strings.TrimSuffix(text, "; ")
}

func TestAccesses(t *testing.T) {
	const head = "var i; array a[3]; var j; array b[?]; "
	for _, x := range []struct {
		text  string
		edges []string
	}{
		{"", []string{""}},
		{"skip; stop; read i;", []string{"", "", "", ""}},
		{"i = 1; i = -j; i = len(a) * len(b);", []string{"", "", "", ""}},
		{"i = a[0];", []string{"r0 0", ""}},
		{"i = a[i] + b[j + 1];", []string{"r0 i; r1 j + 1", ""}},
		{"i = b[0] - a[0] * a[1] - b[1];", []string{"r1 0; r0 0; r0 1; r1 1", ""}},
		{"i = b[0] * (a[1] + b[2]) + a[3];", []string{"r1 0; r0 1; r1 2; r0 3", ""}},
		{"i = -a[-b[i]];", []string{"r1 i; r0 -b[i]", ""}},
		{"i = a[b[a[b[j]]]];", []string{"r1 j; r0 b[j]; r1 a[b[j]]; r0 b[a[b[j]]]", ""}},
		{"i = a[a[0] + b[1]] + b[a[2]];", []string{"r0 0; r1 1; r0 a[0] + b[1]; r0 2; r1 a[2]", ""}},
		{"i = a[0] + a[0];", []string{"r0 0; r0 0", ""}},
		{"a[i] = j;", []string{"w0 i", ""}},
		{"b[i + 1] = a[i];", []string{"r0 i; w1 i + 1", ""}},
		{"a[b[i]] = 1;", []string{"r1 i; w0 b[i]", ""}},
		{"a[a[0]] = a[0];", []string{"r0 0; r0 0; w0 a[0]", ""}},
		{"a[b[i]] = a[j] + b[a[0]];", []string{"r1 i; r0 j; r0 0; r1 a[0]; w0 b[i]", ""}},
		{"b[a[a[1]] - b[2]] = len(a) - a[b[3]];", []string{"r0 1; r0 a[1]; r1 2; r1 3; r0 b[3]; w1 a[a[1]] - b[2]", ""}},
		{"check a[0] < b[1];", []string{"r0 0; r1 1", ""}},
		{"check b[1] >= a[0];", []string{"r1 1; r0 0", ""}},
		{"check b[a[1]] + a[2] != a[b[0]] * b[3];", []string{"r0 1; r1 a[1]; r0 2; r1 0; r0 b[0]; r1 3", ""}},
		{"check i == j;", []string{"", ""}},
		{"if a[0] < b[i] { i = a[1]; } else { b[2] = 1; }", []string{"r0 0; r1 i", "r0 1", "r0 0; r1 i", "w1 2", "", "", ""}},
		{"while i <= b[0] { read i; } i = a[j];", []string{"", "r1 0", "", "", "r1 0", "r0 j", ""}},
		{"for i from a[0] to b[1] { a[i] = b[i]; }", []string{"r0 0", "", "r1 1", "r1 i; w0 i", "", "", "r1 1", ""}},
		{"stop; i = a[7];", []string{"", "r0 7", ""}},
	} {
		n := tree(t, head+x.text)
		if edges := len(impl.GraphOf(n).Edges); edges != len(x.edges) {
			t.Fatalf("%q has %d edges", x.text, edges)
		}
		for edge, want := range x.edges {
			if got := accessText(impl.AccessesOf(n, edge)); got != want {
				t.Fatalf("%q has at edge %d %q, want %q", x.text, edge, got, want)
			}
		}
		for _, edge := range []int{-1 << 63, -1, len(x.edges), len(x.edges) + 1, 1<<63 - 1, 1 << 32} {
			if got := impl.AccessesOf(n, edge); len(got) > 0 {
				t.Fatalf("%q has at edge %d %v", x.text, edge, got)
			}
		}
	}
	// The index is told as a tree; and there may be many accesses.
	want := named(impl.ExCell, "b", variable("i"))
	if list := impl.AccessesOf(tree(t, head+"a[b[i]] = 1;"), 0); len(list) != 2 || !sameTree(list[1].Index, want) || !sameTree(list[0].Index, variable("i")) {
		t.Fatalf("%v", list)
	}
	cell := named(impl.ExCell, "a", number(0))
	n := declaring(named(impl.StPut, "a", cell, sumOf(cell, 163)))
	if list := impl.AccessesOf(n, 0); len(list) != 165 || accessText(list) != strings.Repeat("r0 0; ", 164)+"w0 a[0]" || impl.CountNodes(n) != 495 {
		t.Fatalf("%d accesses, %d nodes", len(list), impl.CountNodes(n))
	}
}

// accessesByWords lists the accesses of a path by where their ] stand.
func accessesByWords(one path, arrays []string) string {
	var open []int
	var list []string
	for at, word := range one.words {
		switch word {
		case "[":
			open = append(open, at)
		case "]":
			start := open[len(open)-1]
			open = open[:len(open)-1]
			list = append(list, strconv.Itoa(slices.Index(arrays, one.words[start-1]))+" "+strings.Join(one.words[start+1:at], " "))
			if one.word == "put" && start == 1 {
				list[len(list)-1] = "w" + list[len(list)-1]
				continue
			}
			list[len(list)-1] = "r" + list[len(list)-1]
		}
	}
	slices.SortStableFunc(list, func(a, b string) int { return strings.Index("rw", a[:1]) - strings.Index("rw", b[:1]) })
	return strings.Join(list, "; ")
}

// The accesses of any program; and with each trap of a cell, the access whose
// number is told is the one that traps.
func TestAccessesByWords(t *testing.T) {
	next := draws(5555)
	many := 0
	for range 400 {
		n := runProgram(t, next)
		if next(3) == 0 {
			n = rightProgram(next)
		}
		if impl.Check(n).Code != impl.OK {
			continue
		}
		lens := make([]int, strings.Count(impl.Print(n), "?"))
		w := walking(t, n, lens, nil)
		for edge, one := range w.paths {
			list := impl.AccessesOf(n, edge)
			text := ""
			for _, access := range list {
				text += accessText([]impl.Access{access})[:3] + spread(impl.ExprText(access.Index)) + "; "
			}
			if want := accessesByWords(one, w.arrays); strings.TrimSuffix(text, "; ") != want {
				t.Fatalf("%s has at edge %d %q, want %q", shown(n), edge, text, want)
			}
			if len(list) > 2 {
				many++
			}
		}
		c := impl.RunTo(n, lens, []int{1, 2, 3}, 300)
		if c.Trap != 1 && c.Trap != 2 {
			continue
		}
		list := impl.AccessesOf(n, c.Edge)
		if c.Access >= len(list) {
			t.Fatalf("%s: %v", shown(n), c)
		}
		index, trap := impl.ValueOf(n, c, list[c.Access].Index)
		row := c.Cells[list[c.Access].Array]
		if inside := index >= 0 && index < len(row); trap != 0 || inside != (c.Trap == 2) || inside && row[index].Written {
			t.Fatalf("%s: %v, the index %d", shown(n), c, index)
		}
	}
	if many < 100 {
		t.Fatalf("%d edges with many accesses", many)
	}
}

const stepHead = "var i; array a[3]; var j; array b[?]; "

// wantStep: a step leads from a state to another one; nothing is written.
func wantStep(t *testing.T, n impl.Node, c impl.Conf, inputs []int, want impl.Conf) {
	t.Helper()
	before, list := copyConf(c), slices.Clone(inputs)
	if got := impl.Step(n, c, inputs); !sameConf(got, want) {
		t.Fatalf("a step of %s leads from %v with %v to %v, want %v", shown(n), c, inputs, got, want)
	}
	if !sameConf(c, before) || !slices.Equal(inputs, list) {
		t.Fatalf("%v has become %v", before, c)
	}
}

// What each kind of edge does, and that it does nothing else.
func TestStepOfEachEdge(t *testing.T) {
	c := with(state([]int{2, -5}, "1 . 7", ". 0"), func(c *impl.Conf) { c.Used, c.Steps = 1, 41 })
	for _, x := range []struct {
		text   string
		from   int
		inputs []int
		to     int
		change func(c *impl.Conf)
	}{
		{"i = j;", 0, nil, 1, func(c *impl.Conf) { c.Vars[0] = -5 }},
		{"j = i + a[0] * len(b);", 0, nil, 1, func(c *impl.Conf) { c.Vars[1] = 4 }},
		{"j = j;", 0, nil, 1, func(c *impl.Conf) {}},
		{"skip; i = 0;", 1, nil, 2, func(c *impl.Conf) { c.Vars[0] = 0 }},
		{"a[1] = 9;", 0, nil, 1, func(c *impl.Conf) { c.Cells[0][1] = impl.Cell{Written: true, Num: 9} }},
		{"a[i] = i;", 0, nil, 1, func(c *impl.Conf) { c.Cells[0][2].Num = 2 }},
		{"b[0] = 0;", 0, nil, 1, func(c *impl.Conf) { c.Cells[1][0].Written = true }},
		{"b[a[0]] = -a[2];", 0, nil, 1, func(c *impl.Conf) { c.Cells[1][1].Num = -7 }},
		{"a[0] = a[0] + 1;", 0, nil, 1, func(c *impl.Conf) { c.Cells[0][0].Num = 2 }},
		{"read i;", 0, []int{3, 4}, 1, func(c *impl.Conf) { c.Vars[0], c.Used = 4, 2 }},
		{"read j;", 0, []int{3, 0, 5}, 1, func(c *impl.Conf) { c.Vars[1], c.Used = 0, 2 }},
		{"read j;", 0, []int{3, 1000000}, 1, func(c *impl.Conf) { c.Vars[1], c.Used = 1000000, 2 }},
		{"read j;", 0, []int{3, -1000000}, 1, func(c *impl.Conf) { c.Vars[1], c.Used = -1000000, 2 }},
		{"check i == 2;", 0, nil, 1, func(c *impl.Conf) {}},
		{"check j < i;", 0, nil, 1, func(c *impl.Conf) {}},
		{"skip;", 0, nil, 1, func(c *impl.Conf) {}},
		{"skip;", 1, nil, 2, func(c *impl.Conf) {}},
		{"stop; skip; skip;", 0, nil, 4, func(c *impl.Conf) {}},
		{"stop; skip; skip;", 1, nil, 2, func(c *impl.Conf) {}},
		{"if i == 2 { i = 7; } else { j = 7; }", 0, nil, 1, func(c *impl.Conf) {}},
		{"if i != 2 { i = 7; } else { j = 7; }", 0, nil, 3, func(c *impl.Conf) {}},
		{"if i != 2 { i = 7; } else { j = 7; }", 1, nil, 2, func(c *impl.Conf) { c.Vars[0] = 7 }},
		{"if i != 2 { i = 7; } else { j = 7; }", 3, nil, 4, func(c *impl.Conf) { c.Vars[1] = 7 }},
		{"if i != 2 { i = 7; } else { j = 7; }", 2, nil, 5, func(c *impl.Conf) {}},
		{"if i != 2 { i = 7; } else { j = 7; }", 4, nil, 5, func(c *impl.Conf) {}},
		{"while i < 3 { i = 7; }", 0, nil, 1, func(c *impl.Conf) {}},
		{"while i < 3 { i = 7; }", 1, nil, 2, func(c *impl.Conf) {}},
		{"while i > 3 { i = 7; }", 1, nil, 4, func(c *impl.Conf) {}},
		{"while i > 3 { i = 7; }", 3, nil, 1, func(c *impl.Conf) {}},
		{"for i from 0 to 3 { }", 0, nil, 1, func(c *impl.Conf) { c.Vars[0] = 0 }},
		{"for i from 0 to 3 { }", 2, nil, 3, func(c *impl.Conf) {}},
		{"for i from 0 to 3 { }", 3, nil, 4, func(c *impl.Conf) { c.Vars[0] = 3 }},
		{"for i from 0 to 2 { }", 2, nil, 5, func(c *impl.Conf) {}},
	} {
		n := tree(t, stepHead+x.text)
		start := with(c, func(c *impl.Conf) { c.Point = x.from })
		want := with(start, func(c *impl.Conf) { c.Point, c.Steps = x.to, 42 })
		x.change(&want)
		wantStep(t, n, start, x.inputs, want)
	}
	for word, holds := range map[string][3]bool{"<": {true, false, false}, "<=": {true, true, false}, ">": {false, false, true}, ">=": {false, true, true}, "==": {false, true, false}, "!=": {true, false, true}} {
		for at, yes := range holds {
			n := tree(t, stepHead+"if i "+word+" "+strconv.Itoa(3-at)+" { }")
			to := map[bool]int{true: 1, false: 2}[yes]
			wantStep(t, n, c, nil, with(c, func(c *impl.Conf) { c.Point, c.Steps = to, 42 }))
			n = tree(t, stepHead+"check i "+word+" "+strconv.Itoa(3-at)+";")
			wantStep(t, n, c, nil, with(c, func(c *impl.Conf) {
				c.Steps = 42
				if c.Point = 1; !yes {
					c.Point, c.Trap = 0, 4
				}
			}))
		}
	}
}

// What a trap leaves: Steps, Trap, Edge and Access are new, all else is not.
func TestTrapsOfSteps(t *testing.T) {
	c := with(state([]int{2, -5}, "1 . 1000000", ". 0"), func(c *impl.Conf) { c.Used, c.Steps = 3, 41 })
	for _, x := range []struct {
		text                      string
		point, trap, edge, access int
	}{
		{"i = a[3];", 0, 1, 0, 0},
		{"i = a[-1];", 0, 1, 0, 0},
		{"i = b[2];", 0, 1, 0, 0},
		{"i = a[1];", 0, 2, 0, 0},
		{"i = b[0];", 0, 2, 0, 0},
		{"i = 1000000 + 1;", 0, 3, 0, 0},
		{"i = a[0] + a[3];", 0, 1, 0, 1},
		{"i = a[0] + b[1] + b[0];", 0, 2, 0, 2},
		{"i = a[a[0]];", 0, 2, 0, 1},
		{"i = a[a[2]];", 0, 1, 0, 1},
		{"i = a[a[3]];", 0, 1, 0, 0},
		{"i = a[a[0] + 5] + a[1];", 0, 1, 0, 1},
		{"i = a[0] + a[2];", 0, 3, 0, 2},
		{"i = a[2] + 1;", 0, 3, 0, 1},
		{"i = a[2] + 1 + a[0];", 0, 3, 0, 1},
		{"i = a[a[2] * 2];", 0, 3, 0, 1},
		{"i = 1000000 * i + a[0];", 0, 3, 0, 0},
		{"i = a[0] * b[1] * a[0] + a[2] * a[2];", 0, 3, 0, 5},
		// A put works its index and its expression out ahead of the write.
		{"a[3] = 1;", 0, 1, 0, 0},
		{"a[-1] = 1;", 0, 1, 0, 0},
		{"b[i] = 1;", 0, 1, 0, 0},
		{"a[3] = a[0];", 0, 1, 0, 1},
		{"a[3] = a[1];", 0, 2, 0, 0},
		{"a[3] = a[-1];", 0, 1, 0, 0},
		{"a[3] = 1000000 + 1;", 0, 3, 0, 0},
		{"a[a[0]] = a[1];", 0, 2, 0, 1},
		{"a[a[0] + 2] = b[1] + a[0];", 0, 1, 0, 3},
		{"a[a[1]] = a[3];", 0, 2, 0, 0},
		{"a[a[3]] = a[1];", 0, 1, 0, 0},
		{"a[a[2] + 1] = a[3];", 0, 3, 0, 1},
		{"a[a[0]] = a[2] + a[0];", 0, 3, 0, 3},
		{"a[a[0]] = a[0] + a[2] * a[2];", 0, 3, 0, 4},
		// The edge is the first one from the point.
		{"skip; i = a[3];", 1, 1, 1, 0},
		{"if i < 1 { } else { i = a[1]; }", 2, 2, 2, 0},
		{"if i < 1 { i = 1; } i = a[0] + a[1];", 4, 2, 5, 1},
		{"stop; i = a[3];", 1, 1, 1, 0},
		{"if a[0] < a[1] { i = 1; }", 0, 2, 0, 1},
		{"if a[3] < a[1] { i = 1; }", 0, 1, 0, 0},
		{"if a[0] + a[2] < a[1] { i = 1; }", 0, 3, 0, 2},
		{"skip; if b[1] == b[2] { } else { skip; }", 1, 1, 1, 1},
		{"while a[1] < 0 { i = 1; }", 1, 2, 1, 0},
		{"skip; while a[0] != a[a[0]] { i = 1; skip; }", 2, 2, 2, 2},
		{"while i < 1 { } while a[2] * 2 < 0 { }", 4, 3, 5, 1},
		{"for i from 0 to b[0] { }", 2, 2, 2, 0},
		{"for i from a[0] to b[0] { a[3] = a[0]; }", 3, 1, 3, 1},
		{"check a[0] == a[1];", 0, 2, 0, 1},
		{"check a[0] == a[3];", 0, 1, 0, 1},
		{"check a[2] < a[2] + a[0];", 0, 3, 0, 3},
		// With these Access is 0, whatever went well ahead.
		{"check a[0] == b[1];", 0, 4, 0, 0},
		{"check 1 < 1;", 0, 4, 0, 0},
		{"skip; check a[a[0] - 1] > a[2] - b[1];", 1, 4, 1, 0},
		{"if i < 1 { check i > j; } check i < j;", 4, 4, 5, 0},
		{"read i;", 0, 5, 0, 0},
		{"skip; if i < 1 { read i; } read j;", 5, 5, 6, 0},
	} {
		n := tree(t, stepHead+x.text)
		start := with(c, func(c *impl.Conf) { c.Point = x.point })
		want := with(start, func(c *impl.Conf) { c.Steps, c.Trap, c.Edge, c.Access = 42, x.trap, x.edge, x.access })
		for _, inputs := range [][]int{nil, {7}, {1, 2, 3}} {
			wantStep(t, n, start, inputs, want)
			wantStep(t, n, want, inputs, want)
		}
		if x.trap < 4 {
			wantStep(t, n, start, []int{1, 2, 3, 4}, want)
		}
	}
}

// What is trapped, at the exit or at MaxFuel is answered as it is.
func TestStepsThatChangeNothing(t *testing.T) {
	n := tree(t, stepHead+"i = 1; check i < 1; read j;")
	c := state([]int{2, -5}, "1 . 7", ". 0")
	exit := with(c, func(c *impl.Conf) { c.Point, c.Steps, c.Used = 4, 17, 9 })
	full := with(c, func(c *impl.Conf) { c.Steps = 5000 })
	list := []impl.Conf{exit, full, with(exit, func(c *impl.Conf) { c.Steps = 5000 }), with(exit, func(c *impl.Conf) { c.Steps = 0 })}
	for trap := 1; trap <= 5; trap++ {
		for point := range 4 {
			list = append(list, with(c, func(c *impl.Conf) { c.Point, c.Trap, c.Edge, c.Access = point, trap, point, 3 }),
				with(full, func(c *impl.Conf) { c.Point, c.Trap, c.Edge = point, trap, point }))
		}
	}
	for _, one := range list {
		wantStep(t, n, one, nil, one)
		wantStep(t, n, one, []int{1, 2}, one)
		// What is wrong is told ahead of that.
		wantStep(t, n, one, make([]int, 101), impl.Conf{})
		wantStep(t, n, one, []int{1, 1000001}, impl.Conf{})
		wantStep(t, n, with(one, func(c *impl.Conf) { c.Used = 101 }), nil, impl.Conf{})
	}
	last := with(c, func(c *impl.Conf) { c.Steps = 4999 })
	wantStep(t, n, last, nil, with(last, func(c *impl.Conf) { c.Steps, c.Point, c.Vars[0] = 5000, 1, 1 }))
	last.Point = 1
	wantStep(t, n, last, nil, with(last, func(c *impl.Conf) { c.Steps, c.Trap, c.Edge = 5000, 4, 1 }))
}

func TestInputs(t *testing.T) {
	n := tree(t, "var x; while 0 < 1 { read x; }")
	most := make([]int, 100)
	for i := range most {
		most[i] = i * 7
	}
	// Three steps for each number, behind the one to the head.
	for _, used := range []int{0, 1, 99, 100} {
		c := wantRun(t, n, nil, most[:used], 310)
		want := impl.Conf{Point: 2, Vars: []int{max(0, used*7-7)}, Used: used, Steps: 3 + 3*used, Trap: 5, Edge: 2}
		if !sameConf(c, want) {
			t.Fatalf("%d inputs: %v, want %v", used, c, want)
		}
	}
	start := impl.Conf{Point: 2, Vars: []int{3}}
	wantStep(t, n, with(start, func(c *impl.Conf) { c.Used = 99 }), most, impl.Conf{Point: 3, Vars: []int{693}, Used: 100, Steps: 1})
	full := with(start, func(c *impl.Conf) { c.Used = 100 })
	for _, inputs := range [][]int{nil, most[:99], most} {
		wantStep(t, n, full, inputs, with(full, func(c *impl.Conf) { c.Trap, c.Edge, c.Steps = 5, 2, 1 }))
	}
	for _, size := range []int{101, 102, 100000} {
		wantStep(t, n, start, make([]int, size), impl.Conf{})
		wantNoRun(t, n, nil, make([]int, size), 1)
		wantNoRun(t, n, nil, make([]int, size), 0)
	}
	for _, num := range []int{1000000, -1000000, 0} {
		wantStep(t, n, start, []int{num}, impl.Conf{Point: 3, Vars: []int{num}, Used: 1, Steps: 1})
		wantRun(t, n, nil, []int{num, -num, num}, 15)
	}
	// One that is not a number of the program is refused, also where it is not read.
	for _, num := range []int{1000001, -1000001, 1<<63 - 1, -1 << 63} {
		for at := range 3 {
			inputs := []int{1, 2, 3}
			inputs[at] = num
			for _, one := range []impl.Node{n, tree(t, "var x; skip;")} {
				wantStep(t, one, impl.Conf{Vars: []int{3}}, inputs, impl.Conf{})
				wantNoRun(t, one, nil, inputs, 1)
				wantNoRun(t, one, nil, inputs, 0)
				wantNoRun(t, one, nil, inputs, 5000)
			}
		}
	}
}

func TestFuel(t *testing.T) {
	ends := tree(t, "var i; i = 1; skip;")
	traps := tree(t, "var i; i = 1; check i < 1; i = 2;")
	forever := tree(t, "var i; while 0 < 1 { i = i + 1; }")
	for _, n := range []impl.Node{ends, traps, forever} {
		for _, fuel := range []int{-1, -5000, -1 << 63, 5001, 5002, 1<<63 - 1} {
			wantNoRun(t, n, nil, nil, fuel)
		}
		if c := impl.RunTo(n, nil, nil, 0); !sameConf(c, impl.Conf{Vars: []int{0}}) {
			t.Fatalf("%v", c)
		}
		if list := impl.PathOf(n, nil, nil, 0); !slices.Equal(list, []int{0}) {
			t.Fatalf("%v", list)
		}
		wantRun(t, n, nil, nil, 12)
	}
	for _, fuel := range []int{3, 4, 4999, 5000} {
		if c := impl.RunTo(ends, nil, nil, fuel); !sameConf(c, impl.Conf{Point: 3, Vars: []int{1}, Steps: 3}) {
			t.Fatalf("%d: %v", fuel, c)
		}
		if list := impl.PathOf(ends, nil, nil, fuel); !slices.Equal(list, []int{0, 1, 2, 3}) {
			t.Fatalf("%d: %v", fuel, list)
		}
	}
	for _, fuel := range []int{2, 3, 4999, 5000} {
		if c := impl.RunTo(traps, nil, nil, fuel); !sameConf(c, impl.Conf{Point: 1, Vars: []int{1}, Steps: 2, Trap: 4, Edge: 1}) {
			t.Fatalf("%d: %v", fuel, c)
		}
		if list := impl.PathOf(traps, nil, nil, fuel); !slices.Equal(list, []int{0, 1}) {
			t.Fatalf("%d: %v", fuel, list)
		}
	}
	// Three steps a round, behind the one to the head, which is point 1.
	for _, fuel := range []int{1, 2, 3, 4, 5, 999, 4998, 4999, 5000} {
		c := impl.RunTo(forever, nil, nil, fuel)
		if want := (impl.Conf{Point: 1 + (fuel-1)%3, Vars: []int{fuel / 3}, Steps: fuel}); !sameConf(c, want) {
			t.Fatalf("%d: %v, want %v", fuel, c, want)
		}
		list := impl.PathOf(forever, nil, nil, fuel)
		if len(list) != fuel+1 || list[fuel] != c.Point {
			t.Fatalf("%d: %d points", fuel, len(list))
		}
		for i, point := range list[1:] {
			if point != 1+i%3 {
				t.Fatalf("%d: point %d is %d", fuel, i+1, point)
			}
		}
	}
	c := impl.RunTo(forever, nil, nil, 5000)
	wantStep(t, forever, c, nil, c)
	c = impl.RunTo(forever, nil, nil, 4999)
	wantStep(t, forever, c, nil, impl.RunTo(forever, nil, nil, 5000))
	// A trap at the first step is told with the point at which it began.
	n := tree(t, "check 1 < 1;")
	if list := impl.PathOf(n, nil, nil, 5000); !slices.Equal(list, []int{0}) {
		t.Fatalf("%v", list)
	}
}

// The longest runs, step by step.
func TestLongRuns(t *testing.T) {
	for _, text := range []string{
		"var i; array a[60]; while 0 < 1 { for i from 0 to len(a) { a[i] = i * i; } }",
		"var i; var j; for i from 0 to 30 { for j from 0 to 30 { if i < j { skip; } else { skip; } } }",
		"array a[?]; var i; var j; for i from 0 to len(a) { a[i] = len(a) - i; } for i from 0 to len(a) { for j from 1 to len(a) { if a[j] < a[j - 1] { a[j] = a[j] + a[j - 1]; a[j - 1] = a[j] - a[j - 1]; a[j] = a[j] - a[j - 1]; } } }",
	} {
		n := tree(t, text)
		lens := make([]int, strings.Count(text, "?"))
		for i := range lens {
			lens[i] = 17
		}
		w := walking(t, n, lens, nil)
		for fuel := range 5001 {
			if fuel%500 == 0 || fuel > 4995 {
				if got := impl.RunTo(n, lens, nil, fuel); !sameConf(got, w.conf) || !impl.ConfOk(n, got) {
					t.Fatalf("%q: %v, want %v", text, got, w.conf)
				}
				was := copyConf(w.conf)
				got := impl.Step(n, was, nil)
				w.step()
				if !sameConf(got, w.conf) {
					t.Fatalf("%q: %v, want %v", text, got, w.conf)
				}
				continue
			}
			w.step()
		}
	}
}

// spoil writes over a state and the spare room of its lists, and tells where
// two of them share memory.
func spoil(t *testing.T, c *impl.Conf) {
	t.Helper()
	vars := c.Vars[:cap(c.Vars)]
	for i := range vars {
		vars[i] = -77
	}
	seen := map[*impl.Cell]int{}
	for _, row := range c.Cells {
		row = row[:cap(row)]
		for i := range row {
			if seen[&row[i]]++; seen[&row[i]] > 1 {
				t.Fatal("two lists share memory")
			}
			row[i] = impl.Cell{Written: true, Num: -77}
		}
	}
	rows := c.Cells[:cap(c.Cells)]
	clear(rows)
	*c = impl.Conf{Point: -77}
}

// Answers are new memory, no two lists of one share any, and nothing is kept.
func TestRunsKeepNothing(t *testing.T) {
	n := tree(t, "var i; array a[3]; var j; array b[?]; array c[?]; read i; a[i] = 7; b[0] = a[i]; check i < 1; stop;")
	lens, inputs := []int{2, 3}, []int{1, 5}
	before := copyTree(n)
	first, _ := impl.Begin(n, lens)
	start := copyConf(first)
	spoil(t, &first)
	if again, ok := impl.Begin(n, lens); !ok || !sameConf(again, start) {
		t.Fatalf("Begin has become %v", again)
	}
	for fuel := range 6 {
		one := impl.RunTo(n, lens, inputs, fuel)
		want := copyConf(one)
		other := impl.RunTo(n, lens, inputs, fuel)
		spoil(t, &one)
		if !sameConf(other, want) || !sameConf(impl.RunTo(n, lens, inputs, fuel), want) {
			t.Fatalf("%d steps have become %v", fuel, other)
		}
		next := impl.Step(n, other, inputs)
		wantNext := copyConf(next)
		spoil(t, &next)
		if !sameConf(other, want) {
			t.Fatalf("%v has become %v", want, other)
		}
		next = impl.Step(n, other, inputs)
		spoil(t, &other)
		if !sameConf(next, wantNext) {
			t.Fatalf("%v has become %v", wantNext, next)
		}
		list := impl.PathOf(n, lens, inputs, fuel)
		wantList := slices.Clone(list)
		for i := range list[:cap(list)] {
			list[:cap(list)][i] = -77
		}
		if got := impl.PathOf(n, lens, inputs, fuel); !slices.Equal(got, wantList) {
			t.Fatalf("%v has become %v", wantList, got)
		}
	}
	if !sameTree(n, before) || !slices.Equal(lens, []int{2, 3}) || !slices.Equal(inputs, []int{1, 5}) {
		t.Fatalf("%v %v %v", n, lens, inputs)
	}
}

// The index of a cell within another's index is a part of that: each has its own.
func TestAccessesKeepNothing(t *testing.T) {
	n := tree(t, "var i; array a[3]; a[a[a[i + 1]]] = a[a[i] * 2]; if a[a[0]] < a[a[0]] { }")
	before := copyTree(n)
	seen := map[*impl.Node]int{}
	for edge, want := range []string{"r0 i + 1; r0 a[i + 1]; r0 i; r0 a[i] * 2; w0 a[a[i + 1]]", "r0 0; r0 a[0]; r0 0; r0 a[0]", "r0 0; r0 a[0]; r0 0; r0 a[0]"} {
		for range 2 {
			list := impl.AccessesOf(n, edge)
			if got := accessText(list); got != want {
				t.Fatalf("%q, want %q", got, want)
			}
			list = list[:cap(list)]
			for i := range list {
				wipe(t, seen, &list[i].Index)
				list[i] = impl.Access{Array: -77}
			}
		}
	}
	list := impl.AccessesOf(n, 0)
	if !sameTree(n, before) {
		t.Fatalf("%v has become %v", before, n)
	}
	wipe(t, seen, &n)
	if got := accessText(list); got != "r0 i + 1; r0 a[i + 1]; r0 i; r0 a[i] * 2; w0 a[a[i + 1]]" {
		t.Fatal(got)
	}
}

// What lies behind a list's length is neither read nor written.
func TestSpareRoomOfRuns(t *testing.T) {
	n := tree(t, "var i; array a[2]; var j; array b[?]; read i; a[i] = 7; b[0] = i; i = b[0];")
	vars := []int{0, 0, 1000001, -77}
	rows := [][]impl.Cell{append(cells(". ."), impl.Cell{Num: 5}, impl.Cell{Num: 6})[:2], append(cells("."), impl.Cell{Num: 7})[:1], cells("1"), nil}
	lens, inputs := []int{1, 99}, []int{1, 1000001, 7}
	c := impl.Conf{Vars: vars[:2], Cells: rows[:2]}
	for range 2 {
		if begun, ok := impl.Begin(n, lens[:1]); !ok || !sameConf(begun, c) {
			t.Fatalf("%v %v", begun, ok)
		}
		if !impl.ConfOk(n, c) {
			t.Fatalf("%v is not ok", c)
		}
		if num, trap := impl.ValueOf(n, c, exprOf(t, "a[2]")); num != 0 || trap != 1 {
			t.Fatalf("%d %d", num, trap)
		}
		one := c
		for range 9 {
			one = impl.Step(n, one, inputs[:1])
		}
		want := state([]int{1, 0}, ". 7", "1")
		want.Point, want.Used, want.Steps = 5, 1, 5
		if !sameConf(one, want) || !sameConf(impl.RunTo(n, lens[:1], inputs[:1], 9), want) {
			t.Fatalf("%v, want %v", one, want)
		}
		if list := impl.PathOf(n, lens[:1], inputs[:1], 9); !slices.Equal(list, []int{0, 1, 2, 3, 4, 5}) {
			t.Fatalf("%v", list)
		}
	}
	if !slices.Equal(vars, []int{0, 0, 1000001, -77}) || !slices.Equal(rows[0][:4], append(cells(". ."), impl.Cell{Num: 5}, impl.Cell{Num: 6})) ||
		!slices.Equal(rows[1][:2], append(cells("."), impl.Cell{Num: 7})) || len(rows[2]) != 1 || rows[3] != nil || lens[1] != 99 || !slices.Equal(inputs, []int{1, 1000001, 7}) {
		t.Fatalf("%v %v %v %v", vars, rows, lens, inputs)
	}
}
