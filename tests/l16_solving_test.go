package tests

import (
	"math"
	"slices"
	"strconv"
	"strings"
	"sync"
	"testing"

	"loop.example/g00093/impl"
)

// A rounds goes through the points of a right program once more, loop within
// loop, as the lines of its graph's text and the parentheses of its order say;
// what the chapters ahead tell it has told otherwise.
type rounds struct {
	form    teller
	lines   []string
	edges   []impl.Edge
	lasts   map[int]int
	steps   []int
	wide    []impl.Abs
	visits  []int
	isSpent bool
}

func roundsOf(t *testing.T, n impl.Node) *rounds {
	t.Helper()
	g := impl.GraphOf(n)
	return &rounds{
		form:   teller{vars: impl.VarsOf(n), arrays: impl.ArraysOf(n), labels: impl.LabelsOf(n)},
		lines:  strings.SplitAfter(impl.GraphText(g), "\n"),
		edges:  g.Edges,
		lasts:  loopsByOrder(t, g),
		steps:  stepsByWords(n),
		wide:   make([]impl.Abs, g.Points),
		visits: make([]int, g.Points),
	}
}

// stepsByWords: the least numbers among the words of the statements.
func stepsByWords(n impl.Node) []int {
	_, words := parted(n)
	var list []int
	for _, one := range words {
		if num, err := strconv.Atoi(one.Text); err == nil && !slices.Contains(list, num) {
			list = append(list, num)
		}
	}
	slices.Sort(list)
	return list[:min(len(list), 20)]
}

// over: what is told behind an edge.
func (r *rounds) over(edge int, a impl.Abs) impl.Abs {
	w := r.form
	w.now = normByParts(a)
	w.lost = isNothing(w.now)
	w.cross(r.lines[edge])
	return w.told()
}

// comes: what comes to a point over the edges from those that are kept.
func (r *rounds) comes(point int, kept func(from int) bool, has func(from int) impl.Abs) impl.Abs {
	whole := nothing()
	for at, e := range r.edges {
		if e.To == point && kept(e.From) {
			whole = joinByParts(whole, r.over(at, has(e.From)))
		}
	}
	return whole
}

func (r *rounds) has(point int) impl.Abs { return r.wide[point] }

func anyPoint(int) bool { return true }

// through: the points from the one to the other one are gone through.
func (r *rounds) through(n impl.Node, from, to int) {
	for point := from; point <= to && !r.isSpent; point++ {
		last, isHead := r.lasts[point]
		switch {
		case point == 0:
			r.wide[point] = startByParts(n)
		case !isHead:
			r.wide[point] = r.comes(point, anyPoint, r.has)
		default:
			r.loop(n, point, last)
			point = last
		}
	}
}

func (r *rounds) loop(n impl.Node, head, last int) {
	r.wide[head] = r.comes(head, func(from int) bool { return from < head }, r.has)
	for !r.isSpent {
		r.through(n, head+1, last)
		if r.isSpent || r.allVisits() == 300 {
			r.isSpent = true
			return
		}
		r.visits[head]++
		isDone := true
		for at, e := range r.edges {
			if e.To == head && e.From >= head {
				isDone = isDone && leqByParts(r.over(at, r.wide[e.From]), r.wide[head])
			}
		}
		if isDone {
			return
		}
		r.wide[head] = widenByParts(r.wide[head], r.comes(head, anyPoint, r.has), r.steps)
	}
}

func (r *rounds) allVisits() int {
	sum := 0
	for _, count := range r.visits {
		sum += count
	}
	return sum
}

// last: the points once more, with what was widened where an edge leads back.
func (r *rounds) last(n impl.Node) []impl.Abs {
	points := []impl.Abs{startByParts(n)}
	for point := 1; point < len(r.wide); point++ {
		points = append(points, r.comes(point, anyPoint, func(from int) impl.Abs {
			if from < point {
				return points[from]
			}
			return r.wide[from]
		}))
	}
	return points
}

// isStable: whether one Abs for each point of a right program is Stable.
func (r *rounds) isStable(n impl.Node, list []impl.Abs) bool {
	if len(list) != len(r.wide) || slices.ContainsFunc(list, func(a impl.Abs) bool { return !isAbsByParts(n, a) }) {
		return false
	}
	if !leqByParts(startByParts(n), list[0]) {
		return false
	}
	for at, e := range r.edges {
		if !leqByParts(r.over(at, list[e.From]), list[e.To]) {
			return false
		}
	}
	return true
}

func sameList(a, b []impl.Abs) bool { return slices.EqualFunc(a, b, sameAbs) }

func sameTable(a, b impl.Table) bool {
	return a.Code == b.Code && a.Visits == b.Visits && sameList(a.Wide, b.Wide) && sameList(a.Points, b.Points)
}

func copyList(list []impl.Abs) []impl.Abs {
	var c []impl.Abs
	for _, a := range list {
		c = append(c, copyAbs(a))
	}
	return c
}

func wantNoTable(t *testing.T, n impl.Node, got impl.Table, code int) {
	t.Helper()
	if !sameTable(got, impl.Table{Code: code}) {
		t.Fatalf("%s: code %d, %d visits, %d and %d points, want code %d alone", shown(n), got.Code, got.Visits, len(got.Wide), len(got.Points), code)
	}
}

// wantList: what is told for the points of a program.
func wantList(t *testing.T, n impl.Node, way string, got, want []impl.Abs) {
	t.Helper()
	if len(got) != len(want) {
		t.Fatalf("%s: %s has %d points, want %d", shown(n), way, len(got), len(want))
	}
	for point, a := range got {
		wantAbs(t, a, want[point], shown(n), way, point)
		wantAbsOk(t, n, a, true)
	}
}

// wantSolve: what Solve finds is as it is found otherwise; promise 16: before the
// last pass it is Stable, and there are at most MaxVisits visits.
func wantSolve(t *testing.T, n impl.Node) (impl.Table, *rounds) {
	t.Helper()
	before := copyTree(n)
	got := impl.Solve(n)
	r := roundsOf(t, n)
	r.through(n, 0, len(r.wide)-1)
	if !sameTree(n, before) {
		t.Fatalf("%v has become %v", before, n)
	}
	if r.isSpent {
		wantNoTable(t, n, got, impl.ErrBudget)
		return got, r
	}
	if got.Code != impl.OK || got.Visits != r.allVisits() || got.Visits > impl.MaxVisits {
		t.Fatalf("%s: code %d, %d visits, want %v", shown(n), got.Code, got.Visits, r.visits)
	}
	wantList(t, n, "wide", got.Wide, r.wide)
	wantList(t, n, "points", got.Points, r.last(n))
	if !impl.Stable(n, got.Wide) || !r.isStable(n, got.Wide) {
		t.Fatalf("%s: %v is not stable", shown(n), got.Wide)
	}
	return got, r
}

// wantPoints: what is told for points of a program, from their numbers and texts.
func wantPoints(t *testing.T, n impl.Node, list []impl.Abs, texts map[int]string) {
	t.Helper()
	for point, want := range texts {
		if got := impl.AbsText(n, list[point]); got != want {
			t.Fatalf("%s: point %d: %q, want %q", shown(n), point, got, want)
		}
	}
}

func TestSolvingConstants(t *testing.T) {
	if impl.MaxVisits != 300 || impl.ErrBudget != 9 {
		t.Fatal(impl.MaxVisits, impl.ErrBudget)
	}
}

// counting: a program in which just so many numbers from the first on stand.
func counting(first, count int) string {
	text := "var x; "
	for num := range count {
		text += "x = " + strconv.Itoa(first+num) + "; "
	}
	return text
}

func TestStepsOf(t *testing.T) {
	for text, want := range map[string][]int{
		// None; those of declarations are none.
		"var i;": nil, "skip;": nil, "var i; var j; i = j;": nil, "array a[7]; array b[0]; array c[60];": nil,
		"var i; array a[3]; read i; a[i] = len(a);": nil, "var x1; x1 = x1 * x1;": nil,
		// Each once, ascending.
		"var i; i = 5;": {5}, "var i; i = 5; i = 3; i = 5; i = 4; i = 3;": {3, 4, 5}, "var i; array a[9]; i = 0;": {0},
		"var i; i = 1000000 - 0 + 7;": {0, 7, 1000000}, "var i; i = -5;": {5}, "var i; i = 2 - -(2 + -9 * 1);": {1, 2, 9},
		// Wherever they stand.
		"array a[40]; a[7] = 8;": {7, 8}, "var i; array a[40]; i = a[a[3] * 2];": {2, 3}, "var i; check 4 < i;": {4},
		"array a[9]; check a[6] != a[11 - 2];":                                {2, 6, 11},
		"var i; if i < 5 { i = 2; } else { i = 9; }":                          {2, 5, 9},
		"var i; while i + 3 <= 30 { while 12 > i { i = i + 4; } }":            {3, 4, 12, 30},
		"var i; if 1 < i {} else { if i < 2 { while i == 6 { i = 8; } } }":    {1, 2, 6, 8},
		"var i; array a[2]; if a[0] == 1 { a[a[2]] = a[3] - 4; check 5 < 6;}": {0, 1, 2, 3, 4, 5, 6},
		// A for as it stands: the number that is added in its Plain is none.
		"var i; for i from 0 to 5 { skip; }": {0, 5}, "var i; var j; for i from j to j {}": nil, "var i; for i from 0 to 5 { i = 1; }": {0, 1, 5},
		"var i; array a[2]; for i from a[3] to len(a) - 7 { a[i] = 6; for i from 9 to i {} }": {3, 6, 7, 9},
	} {
		if got := impl.StepsOf(tree(t, text)); !slices.Equal(got, want) {
			t.Fatalf("%s: %v, want %v", text, got, want)
		}
	}
}

// leastOf: the least twenty of numbers, each once, ascending.
func leastOf(nums ...int) []int {
	slices.Sort(nums)
	nums = slices.Compact(nums)
	return nums[:min(len(nums), 20)]
}

// At most twenty: the least stay, in whatever order they stand, and none of the
// others is handed out behind them.
func TestMostStepsOfPrograms(t *testing.T) {
	for count := range 30 {
		nums := run(5, 4+count)
		for text, want := range map[string][]int{
			counting(5, count):                          leastOf(nums...),
			counting(5, count) + "x = 3; x = 4 - x;":    leastOf(append([]int{3, 4}, nums...)...),
			counting(5, count) + "x = 99; check x < 6;": leastOf(append([]int{6, 99}, nums...)...),
		} {
			got := impl.StepsOf(tree(t, text))
			if !slices.Equal(got, want) || slices.ContainsFunc(got[len(got):cap(got)], func(num int) bool { return num != 0 }) {
				t.Fatalf("%s: %v, want %v", text, got[:cap(got)], want)
			}
		}
	}
	next := draws(1600)
	right, most := 0, 0
	for range 300 {
		n := rightProgram(next)
		if impl.Check(n).Code != impl.OK {
			continue
		}
		got := impl.StepsOf(n)
		if !slices.Equal(got, stepsByWords(n)) || len(got) > impl.MaxSteps {
			t.Fatalf("%s: %v", shown(n), got)
		}
		right, most = right+1, max(most, len(got))
		// They are such as chapters 6, 7 and 14 take.
		if impl.RangeWiden(span(0, 0), span(1, 1), got) == noRange() {
			t.Fatalf("%v are no steps", got)
		}
	}
	if right < 200 || most < 5 {
		t.Fatal(right, most)
	}
}

// Without loops there are no visits, and the last pass finds what the first did.
func TestSolveWithoutLoops(t *testing.T) {
	for text, points := range map[string]map[int]string{
		"var i;":                           {0: "i >= 0, i <= 0\n", 1: "i >= 0, i <= 0\n"},
		"skip;":                            {0: "any\n", 1: "any\n", 2: "any\n"},
		"array a[0];":                      {0: "len(a) >= 0, len(a) <= 0\na: {0, len(a)}\n", 1: "len(a) >= 0, len(a) <= 0\na: {0, len(a)}\n"},
		"array a[?];":                      {1: "len(a) >= 0, len(a) <= 60\na: {0} none or unwritten ? {len(a)}\n"},
		"array a[2]; a[1] = 7; a[0] = 5;":  {1: "len(a) >= 2, len(a) <= 2\na: {0} none or unwritten {1} 7..7 {2, len(a)}\n", 2: "len(a) >= 2, len(a) <= 2\na: {0} 5..5 {1} 7..7 {2, len(a)}\n"},
		"array a[2]; a[2] = 7; a[0] = 5;":  {0: "len(a) >= 2, len(a) <= 2\na: {0} none or unwritten {2, len(a)}\n", 1: "nothing\n", 2: "nothing\n", 3: "nothing\n"},
		"var i; i = 4; stop; i = 5; skip;": {1: "i >= 4, i <= 4\n", 2: "nothing\n", 3: "nothing\n", 4: "nothing\n", 5: "i >= 4, i <= 4\n"},
		// Each kind of edge, two ways that come together, and two that come to the exit.
		"var i; read i; if i < 5 { i = 5; } else { check i < 9; } stop; i = 1;": {
			0: "i >= 0, i <= 0\n", 1: "any\n", 2: "i <= 4\n", 3: "i >= 5, i <= 5\n", 4: "i >= 5\n", 5: "i >= 5, i <= 8\n",
			6: "i >= 5, i <= 8\n", 7: "nothing\n", 8: "nothing\n", 9: "i >= 5, i <= 8\n",
		},
		"var i; read i; if i > 7 { i = 0; stop; } if i > 5 { i = 1; stop; } i = 3;": {
			2: "i >= 8\n", 3: "i >= 0, i <= 0\n", 4: "nothing\n", 5: "i <= 7\n", 6: "i <= 7\n", 7: "i >= 6, i <= 7\n",
			8: "i >= 1, i <= 1\n", 9: "nothing\n", 10: "i <= 5\n", 11: "i <= 5\n", 12: "i >= 3, i <= 3\n", 13: "i >= 0, i <= 3\n",
		},
		"var i; if i == 0 { i = 2; } else { i = 3; }": {1: "i >= 0, i <= 0\n", 2: "i >= 2, i <= 2\n", 3: "nothing\n", 4: "nothing\n", 5: "i >= 2, i <= 2\n"},
	} {
		n := tree(t, text)
		got, _ := wantSolve(t, n)
		if got.Visits != 0 || !sameList(got.Wide, got.Points) {
			t.Fatalf("%s: %v", text, got)
		}
		wantPoints(t, n, got.Points, points)
	}
}

// wantVisits: a program is solved with so many visits to the heads of its loops,
// in order, and the points have these texts: first in Wide, then in Points.
func wantVisits(t *testing.T, text string, visits []int, wide, points map[int]string) impl.Table {
	t.Helper()
	n := tree(t, text)
	got, r := wantSolve(t, n)
	var counts []int
	for _, head := range impl.HeadsOf(impl.GraphOf(n)) {
		counts = append(counts, r.visits[head])
	}
	if !slices.Equal(counts, visits) {
		t.Fatalf("%s: %v visits, want %v", text, counts, visits)
	}
	wantPoints(t, n, got.Wide, wide)
	wantPoints(t, n, got.Points, points)
	return got
}

func TestSolveLoops(t *testing.T) {
	// Done at the first visit: nothing leads back, or what the head has already.
	wantVisits(t, "var i; while 0 > 1 {}", []int{1}, nil, map[int]string{1: "i >= 0, i <= 0\n", 2: "nothing\n", 3: "i >= 0, i <= 0\n", 4: "i >= 0, i <= 0\n"})
	wantVisits(t, "var i; while i == i {}", []int{1}, nil, map[int]string{1: "i >= 0, i <= 0\n", 2: "i >= 0, i <= 0\n", 3: "nothing\n", 4: "nothing\n"})
	wantVisits(t, "var i; while i < 3 { i = 0; }", []int{1}, nil, map[int]string{2: "i >= 0, i <= 0\n", 4: "nothing\n", 5: "nothing\n"})
	wantVisits(t, "var i; while i < 3 { stop; }", []int{1}, nil, map[int]string{2: "i >= 0, i <= 0\n", 3: "nothing\n", 4: "nothing\n", 5: "i >= 0, i <= 0\n"})
	wantVisits(t, "var i; while i < 3 { i = i + 1; check i > 1; }", []int{1}, nil, map[int]string{3: "i >= 1, i <= 1\n", 4: "nothing\n", 5: "nothing\n"})
	// At the second one: the step is where it ends.
	wantVisits(t, "var i; i = 1; while i < 3 { i = i + 1; }", []int{2}, map[int]string{2: "i >= 1, i <= 3\n"},
		map[int]string{2: "i >= 1, i <= 3\n", 3: "i >= 1, i <= 2\n", 4: "i >= 2, i <= 3\n", 5: "i >= 3, i <= 3\n", 6: "i >= 3, i <= 3\n"})
	wantVisits(t, "var i; while 0 < 1 { read i; }", []int{2}, map[int]string{1: "any\n"}, map[int]string{1: "any\n", 3: "any\n", 4: "nothing\n", 5: "nothing\n"})
	// Later: from step to step, at last to the cap, which the last pass takes back.
	wantVisits(t, "var i; i = 1; while i < 2 + 1 { i = i + 1; }", []int{3}, map[int]string{2: "i >= 1\n", 3: "i >= 1, i <= 2\n", 5: "i >= 3\n", 6: "i >= 3\n"},
		map[int]string{2: "i >= 1, i <= 3\n", 3: "i >= 1, i <= 2\n", 5: "i >= 3, i <= 3\n", 6: "i >= 3, i <= 3\n"})
	wantVisits(t, "var i; while i < 9 { if i == 5 { stop; } i = i + 1; }", []int{3}, map[int]string{1: "i >= 0, i <= 5\n"},
		map[int]string{1: "i >= 0, i <= 5\n", 3: "i >= 5, i <= 5\n", 5: "i >= 0, i <= 4\n", 8: "nothing\n", 9: "i >= 5, i <= 5\n"})
	// Nothing comes into it.
	wantVisits(t, "var i; stop; while i < 3 { i = i + 1; }", []int{1}, nil, map[int]string{2: "nothing\n", 3: "nothing\n", 4: "nothing\n", 5: "nothing\n", 6: "i >= 0, i <= 0\n"})
	wantVisits(t, "var i; while i < 1 {} while i < 3 { i = i + 1; while i > 2 { read i; } }", []int{1, 1, 1}, nil, map[int]string{2: "i >= 0, i <= 0\n", 3: "nothing\n", 4: "nothing\n", 9: "nothing\n"})
}

func TestSolveLoopsTogether(t *testing.T) {
	// The head within begins anew at each round: four visits each, three times.
	wantVisits(t, "var i; var j; while i < 3 { j = 0; while j < 5 { j = j + 1; } i = i + 1; }", []int{3, 12},
		map[int]string{1: "i >= 0, j >= 0, i <= 3, i - j <= 0, j <= 5, j - i <= 5\n", 4: "i >= 0, j >= 0, i <= 2, i - j <= 2, j <= 5, j - i <= 5\n"},
		map[int]string{1: "i >= 0, j >= 0, i <= 3, i - j <= 0, j <= 5, j - i <= 4\n", 9: "i >= 3, j >= 3, i <= 3, i - j <= 0, j <= 5, j - i <= 2\n"})
	wantVisits(t, "var i; var j; while i < 3 { j = i; while j < 5 { j = j + 1; } i = i + 1; }", []int{3, 12}, map[int]string{3: "i >= 0, j >= 0, i <= 2, i - j <= 0, j <= 2, j - i <= 0\n"}, nil)
	wantVisits(t, "var i; var j; while i < 4 { while j < 4 { j = j + 1; } i = i + 1; }", []int{3, 5}, nil, nil)
	// Loops within loops, of which the ones within are done at once.
	wantVisits(t, "var i; while 0 > 1 { while 0 > 1 { while 0 > 1 { while i < 7 { i = i + 1; } } } }", []int{1, 1, 1, 1}, nil, nil)
	// One behind the other: the second one begins with what comes out of the first.
	wantVisits(t, "var i; var j; while i < 3 { i = i + 1; } while j < 5 { j = j + i; }", []int{3, 4},
		map[int]string{1: "i >= 0, j >= 0, i <= 3, i - j <= 3, j <= 0, j - i <= 0\n", 5: "i >= 3, j >= 0, i <= 3, i - j <= 3, j - i <= 5\n"},
		map[int]string{5: "i >= 3, j >= 0, i <= 3, i - j <= 3, j <= 7, j - i <= 4\n", 8: "i >= 3, j >= 5, i <= 3, i - j <= -2, j <= 7, j - i <= 4\n"})
	// Two within one, of which the second one has what the first one leaves.
	wantVisits(t, "var i; var j; while i < 2 { while j < 4 { j = j + 1; } while j > 0 { j = j - 1; } i = i + 1; }", []int{3, 12, 14}, nil, nil)
}

// Rows are widened with the facts, and the bounds that go around a loop stay.
func TestSolveSweeps(t *testing.T) {
	around := "i >= 0, len(a) >= 0, i <= 60, i - len(a) <= 0, len(a) <= 60, len(a) - i "
	wantVisits(t, "var i; array a[?]; i = 0; while i < len(a) { a[i] = 7; i = i + 1; }", []int{4},
		map[int]string{2: "i >= 0, len(a) >= 0, i - len(a) <= 0, len(a) <= 60, len(a) - i <= 60\na: {0} 7..7 ? {i} none or unwritten ? {len(a)}\n"},
		map[int]string{2: around + "<= 60\na: {0} 7..7 ? {i} none or unwritten ? {len(a)}\n", 6: around + "<= 0\na: {0} 7..7 ? {i, len(a)}\n"})
}

// A for goes by the steps of the program as it stands, not by those of its Plain.
func TestSolveFor(t *testing.T) {
	text := "var i; array a[?]; for i from 0 to len(a) { a[i] = 0; }"
	n := tree(t, text)
	plain := impl.Plain(n)
	got := wantVisits(t, text, []int{2}, nil, nil)
	other := wantVisits(t, impl.Print(plain), []int{3}, nil, nil)
	if !sameList(got.Points, other.Points) || !slices.Equal(impl.StepsOf(n), []int{0}) || !slices.Equal(impl.StepsOf(plain), []int{0, 1}) {
		t.Fatal(got, other)
	}
}

// Only the twenty least numbers are steps: one that is left out is passed by.
func TestSolveWithMostSteps(t *testing.T) {
	for count, want := range map[int]string{19: "x >= 0, x <= 30\n", 20: "x >= 0\n"} {
		n := tree(t, counting(1, count)+"x = x - x; while x < 30 { x = x + 1; }")
		got, r := wantSolve(t, n)
		head := impl.HeadsOf(impl.GraphOf(n))[0]
		if text := impl.AbsText(n, got.Wide[head]); text != want || len(r.steps) != 20 || got.Visits < 20 {
			t.Fatalf("%d numbers: %q, %d visits", count+1, text, got.Visits)
		}
	}
}

// What a head is widened with, told by the chapters ahead, visit by visit.
func TestHeadsAreWidened(t *testing.T) {
	for _, text := range []string{
		"var i; array a[?]; while i < 9 { a[i] = i; i = i + 2; }",
		"var i; var j; array a[7]; read j; while j != 3 { a[i] = j; if a[i] > 4 { i = i + 1; } else { read j; } }",
		"var i; array a[5]; i = len(a) - 1; while i >= 0 { a[i] = 12 - i; i = i - 1; }",
	} {
		n := tree(t, text)
		g := impl.GraphOf(n)
		head := impl.HeadsOf(g)[0]
		last := loopsByOrder(t, g)[head]
		wide := make([]impl.Abs, g.Points)
		comes := func(point, from, to int) impl.Abs {
			whole := nothing()
			for at, e := range g.Edges {
				if e.To == point && e.From >= from && e.From <= to {
					whole = impl.AbsJoin(n, whole, impl.AbsEdge(n, wide[e.From], at))
				}
			}
			return whole
		}
		wide[0] = impl.AbsStart(n)
		for point := 1; point <= head; point++ {
			wide[point] = comes(point, 0, point-1)
		}
		visits := 0
		for visits < 50 {
			for point := head + 1; point <= last; point++ {
				wide[point] = comes(point, 0, point-1)
			}
			visits++
			if impl.AbsLeq(n, comes(head, head, last), wide[head]) {
				break
			}
			wide[head] = impl.AbsWiden(n, wide[head], comes(head, 0, last), impl.StepsOf(n))
		}
		for point := last + 1; point < g.Points; point++ {
			wide[point] = comes(point, 0, point-1)
		}
		got, _ := wantSolve(t, n)
		wantList(t, n, "wide", got.Wide, wide)
		if got.Visits != visits || visits < 3 {
			t.Fatalf("%s: %d visits, want %d", text, got.Visits, visits)
		}
	}
}

// Edges come together in their order: of bounds that are crossed otherwise by the
// one way than by the other it is the first way's that stay.
func TestWaysInOrder(t *testing.T) {
	const decl, up, down = "var i; var j; var x; array a[9]; read x; ", "i = 2; j = 5; a[i] = 1; a[j] = 1; ", "i = 5; j = 2; a[j] = 1; a[i] = 1; "
	for text, want := range map[string]string{
		decl + "if x < 0 {" + up + "} else {" + down + "}":                    "{i} 1..1 {i + 1}",
		decl + "if x < 0 {" + down + "} else {" + up + "}":                    "{j} 1..1 {j + 1}",
		decl + "if x < 0 {" + up + "stop;}" + down:                            "{i} 1..1 {i + 1}",
		decl + "if x < 0 {" + down + "stop;}" + up:                            "{j} 1..1 {j + 1}",
		decl + "if x < 0 {" + up + "stop;} if x > 9 {" + down + "stop;}" + up: "{i} 1..1 {i + 1}",
		decl + "if x < 0 {} else {" + down + "stop;}" + up:                    "{j} 1..1 {j + 1}",
	} {
		n := tree(t, text)
		got, _ := wantSolve(t, n)
		exit := len(got.Points) - 1
		for _, a := range []impl.Abs{got.Wide[exit], got.Points[exit]} {
			if row := impl.SegText(5, 4, a.Segs[0], impl.LabelsOf(n)); row != "{0} 1..1 or unwritten "+want+" 1..1 or unwritten {9, len(a)}" {
				t.Fatalf("%s: %q", text, row)
			}
		}
	}
}

// Each head has one edge from a lesser point alone, however many ways lead there:
// they come together ahead of it.
func TestWaysIntoLoops(t *testing.T) {
	text := "var i; read i; if i < 2 { i = 2; } else { if i > 6 { i = 6; } } while i < 4 { i = i + 1; }"
	wantVisits(t, text, []int{1}, nil, map[int]string{9: "i >= 2, i <= 6\n"})
	next := draws(1601)
	heads := 0
	for range 200 {
		n := rightProgram(next)
		if impl.Check(n).Code != impl.OK {
			continue
		}
		g := impl.GraphOf(n)
		for _, head := range impl.HeadsOf(g) {
			ahead := 0
			for _, e := range g.Edges {
				if e.To == head && e.From < head {
					ahead++
				}
			}
			if heads++; ahead != 1 {
				t.Fatalf("%s: %d edges come into %d", shown(n), ahead, head)
			}
		}
	}
	if heads < 100 {
		t.Fatal(heads)
	}
}

// solved counts what promise 16 was asked of.
type solved struct{ programs, loops, within, later, closer, nothing int }

func (k *solved) add(got impl.Table, r *rounds) {
	k.programs++
	for head, last := range r.lasts {
		k.loops++
		if r.visits[head] > 2 {
			k.later++
		}
		for other := range r.lasts {
			if head < other && other < last {
				k.within++
			}
		}
	}
	for point, a := range got.Points {
		if !sameAbs(a, got.Wide[point]) {
			k.closer++
		}
		if isNothing(a) {
			k.nothing++
		}
	}
}

// Promise 16, over programs with all kinds of statements.
func TestSolvedPrograms(t *testing.T) {
	next := draws(1602)
	var k solved
	for round := range 150 {
		n := runProgram(t, next)
		if round%3 == 2 {
			n = rightProgram(next)
		}
		if impl.Check(n).Code != impl.OK || len(impl.LabelsOf(n)) > 8 {
			continue
		}
		got, r := wantSolve(t, n)
		k.add(got, r)
	}
	if k.programs < 110 || k.loops < 150 || k.within < 20 || k.later < 60 || k.closer < 100 || k.nothing < 400 {
		t.Fatalf("%+v", k)
	}
}

// The same of many more programs, without asking what is told otherwise.
func TestManySolvedPrograms(t *testing.T) {
	next := draws(1603)
	programs, most := 0, 0
	for round := range 800 {
		n := runProgram(t, next)
		if round%2 == 1 {
			n = rightProgram(next)
		}
		if impl.Check(n).Code != impl.OK {
			continue
		}
		got := impl.Solve(n)
		if got.Code == impl.ErrBudget {
			wantNoTable(t, n, got, impl.ErrBudget)
			continue
		}
		if got.Code != impl.OK || got.Visits > impl.MaxVisits || !impl.Stable(n, got.Wide) || len(got.Points) != impl.GraphOf(n).Points {
			t.Fatalf("%s: code %d, %d visits", shown(n), got.Code, got.Visits)
		}
		programs, most = programs+1, max(most, got.Visits)
	}
	if programs < 700 || most < 30 {
		t.Fatal(programs, most)
	}
}

// Promise 15: each state of each run is among those that are told for its point,
// ahead of the last pass and behind it.
func TestSolvedRuns(t *testing.T) {
	next := draws(1604)
	states, ended, trapped := 0, 0, 0
	for range 250 {
		n := runProgram(t, next)
		if impl.Check(n).Code != impl.OK {
			continue
		}
		got := impl.Solve(n)
		if got.Code != impl.OK {
			continue
		}
		inputs := []int{next(7) - 2, next(5), next(9) - 4, 3}
		c, _ := impl.Begin(n, []int{next(6)})
		for range 60 {
			if states++; !impl.AbsHas(n, got.Points[c.Point], c) || !impl.AbsHas(n, got.Wide[c.Point], c) {
				t.Fatalf("%s: %v has not %v", shown(n), got.Points[c.Point], c)
			}
			after := impl.Step(n, c, inputs)
			if after.Trap != 0 {
				trapped++
				break
			}
			if after.Steps == c.Steps {
				ended++
				break
			}
			c = after
		}
	}
	if states < 3000 || ended < 20 || trapped < 50 {
		t.Fatal(states, ended, trapped)
	}
}

// nestOf: loops within each other, each from 0 on to its own number.
func nestOf(deep int) string {
	text := ""
	for at := range deep {
		name := string(rune('i' + deep - 1 - at))
		text = name + " = 0; while " + name + " < " + strconv.Itoa(3+2*(deep-1-at)) + " { " + text + name + " = " + name + " + 1; } "
	}
	return text
}

// A program whose visits come to just so many, and one with one more.
func TestBudget(t *testing.T) {
	const decl, once = "var i; var j; var k; ", "while 0 > 1 {} "
	for _, one := range []struct{ ahead, behind string }{
		// What is visited last is a loop that is done at once, or one that isn't.
		{nestOf(3) + nestOf(3), once}, {"", nestOf(3) + nestOf(3)}, {once, nestOf(3) + nestOf(2) + nestOf(3) + nestOf(1)},
		// Loops to which nothing comes are visited as well.
		{nestOf(3) + nestOf(3), "stop; " + nestOf(2) + once},
	} {
		n := tree(t, decl+one.ahead+one.behind)
		got, r := wantSolve(t, n)
		left := impl.MaxVisits - got.Visits
		if got.Code != impl.OK || left < 3 || left > 110 {
			t.Fatalf("%s: %d visits", shown(n), got.Visits)
		}
		full := spentOf(t, decl, one.ahead, one.behind, left)
		got, r = wantSolve(t, full)
		if got.Code != impl.OK || got.Visits != impl.MaxVisits || r.allVisits() != 300 {
			t.Fatalf("%s: code %d, %d visits", shown(full), got.Code, got.Visits)
		}
		for more := 1; more <= 3; more++ {
			n := spentOf(t, decl, one.ahead, one.behind, left+more)
			got, r := wantSolve(t, n)
			if wantNoTable(t, n, got, impl.ErrBudget); !r.isSpent {
				t.Fatal(r.visits)
			}
		}
	}
}

// spentOf: a program with so many visits more: those of loops of three visits,
// and of ones that are done at once.
func spentOf(t *testing.T, decl, ahead, behind string, more int) impl.Node {
	t.Helper()
	n := tree(t, decl+ahead+strings.Repeat(nestOf(1), more/3)+strings.Repeat("while 0 > 1 {} ", more%3)+behind)
	if trouble := impl.Check(n); trouble != (impl.Trouble{}) {
		t.Fatal(trouble)
	}
	return n
}

// Programs that take too many visits, wherever the loops stand, and large ones.
func TestSpentPrograms(t *testing.T) {
	for _, text := range []string{
		"var i; var j; var k; var l; " + nestOf(4), "var i; var j; var k; var l; var m; " + nestOf(5),
		"var i; var j; var k; var l; if i > j { " + nestOf(4) + "} else { skip; " + nestOf(4) + "}",
		"var i; var j; var k; " + strings.Repeat(nestOf(3), 5) + "stop;",
		"var i; var j; var k; var l; array a[60]; array b[?]; array c[?]; array d[5]; for i from 0 to len(b) { for j from i to len(c) { for k from j to len(a) { for l from 7 to k { a[k] = l; b[i] = a[j]; c[j] = 12; d[0] = 3; } } } }",
	} {
		n := tree(t, text)
		wantNoTable(t, n, impl.Solve(n), impl.ErrBudget)
	}
	// Many points, symbols and rows, but few visits.
	large := "var a; var b; var c; var d; var e; var f; var g; var h; array i[60]; array j[?]; array k[?]; array l[?]; " +
		"while a < 60 { " + strings.Repeat("i[a] = b; j[b] = i[a]; k[c] = d - e; ", 20) + strings.Repeat("if c < d { read c; } ", 8) + "a = a + 1; }"
	n := tree(t, large)
	if got := impl.Solve(n); got.Code != impl.OK || len(got.Points) != 98 || !impl.Stable(n, got.Wide) {
		t.Fatal(got.Code, got.Visits, len(got.Points))
	}
	// As deep as may be, and as many statements.
	deep := "var i; while i < 9 { " + strings.Repeat("while i > 9 { ", 9) + "i = 9; " + strings.Repeat("} ", 9) + "i = 9; }"
	if n := tree(t, deep); impl.DepthOf(n) != impl.MaxDeep {
		t.Fatal(impl.DepthOf(n))
	} else if got := impl.Solve(n); got.Code != impl.OK || got.Visits != 20 {
		t.Fatal(got.Code, got.Visits)
	}
	if got := impl.Solve(tree(t, strings.Repeat("skip;", 498))); got.Code != impl.OK || len(got.Points) != 500 || got.Visits != 0 {
		t.Fatal(got.Code, len(got.Points))
	}
	if n := tree(t, strings.Repeat("while 0 > 1 {} ", 99)); impl.CountNodes(n) != 497 {
		t.Fatal(impl.CountNodes(n))
	} else if got := impl.Solve(n); got.Code != impl.OK || got.Visits != 99 {
		t.Fatal(got.Code, got.Visits)
	}
}

// Of a program that is not right nothing is told, with whatever else.
func TestSolvingOfWrongPrograms(t *testing.T) {
	for at, n := range wrongPrograms(t) {
		if steps := impl.StepsOf(n); len(steps) > 0 {
			t.Fatalf("%d: %v", at, steps)
		}
		wantNoTable(t, n, impl.Solve(n), impl.ErrForm)
		for points := range 8 {
			for _, one := range []impl.Abs{nothing(), topOf(0, 0), topOf(1, 0), topOf(1, 1), {Segs: make([]impl.Seg, 1)}} {
				list := slices.Repeat([]impl.Abs{one}, points)
				if impl.Stable(n, list) {
					t.Fatalf("%d: %d points are stable", at, points)
				}
				if text := impl.TableText(n, impl.Table{Points: list, Wide: list}); text != "" {
					t.Fatalf("%d: %q", at, text)
				}
			}
		}
	}
}

// wantStable: whether a list is Stable is told as it is told otherwise, and the
// list is left as it was.
func wantStable(t *testing.T, n impl.Node, list []impl.Abs, want bool, about ...any) {
	t.Helper()
	before := copyList(list)
	if got := impl.Stable(n, list); got != want || roundsOf(t, n).isStable(n, list) != want {
		t.Fatalf("%s: %v: %v", shown(n), about, got)
	}
	if !sameList(list, before) {
		t.Fatalf("%v has become %v", before, list)
	}
}

// put: a copy of a list with another Abs for one point.
func put(list []impl.Abs, point int, a impl.Abs) []impl.Abs {
	list = copyList(list)
	list[point] = a
	return list
}

func tops(n impl.Node) []impl.Abs {
	return slices.Repeat([]impl.Abs{topOf(len(impl.VarsOf(n)), len(impl.ArraysOf(n)))}, impl.GraphOf(n).Points)
}

// solvedPrograms: programs with each kind of edge, which are solved.
func solvedPrograms(t *testing.T) []impl.Node {
	t.Helper()
	var list []impl.Node
	for _, text := range []string{
		"var i;", "array a[3]; var i; a[2] = 5; i = a[2];", "var i; i = 1; while i < 3 { i = i + 1; }", "var i; stop; while i < 3 { i = i + 1; }",
		"var i; var j; while i < 3 { j = 0; while j < 5 { j = j + 1; } i = i + 1; }", "var i; array a[?]; for i from 0 to len(a) { a[i] = 7; }",
		"var i; array a[9]; read i; if i < 5 { i = 0; skip; a[i] = 1; } else { check i < 9; a[i] = 2; if i == 7 { i = 30; stop; } } i = i - 2; if i >= 0 { stop; } i = 40;",
		"var i; var j; array a[4]; array b[?]; for i from 0 to len(b) { b[i] = i; } while j != 2 { read j; a[0] = j; check j > -9; } a[j] = 6; i = a[0];",
	} {
		list = append(list, tree(t, text))
	}
	return list
}

func TestStable(t *testing.T) {
	asked := 0
	for _, n := range solvedPrograms(t) {
		got, r := wantSolve(t, n)
		wantStable(t, n, got.Wide, true, "wide")
		wantStable(t, n, tops(n), true, "all as wide as can be")
		for point, a := range got.Wide {
			wantStable(t, n, put(got.Wide, point, a), true, "a copy", point)
			// Less than the states that come there is not enough.
			wantStable(t, n, put(got.Wide, point, nothing()), isNothing(a), "nothing", point)
		}
		// One Abs fewer and one more than there are points.
		count := len(got.Wide)
		for _, list := range [][]impl.Abs{nil, {}, got.Wide[:1], got.Wide[:count-1], got.Wide[1:], append(copyList(got.Wide), got.Wide[count-1]), append(copyList(got.Wide), nothing()), tops(n)[1:], append(tops(n), tops(n)[0]), make([]impl.Abs, 100000)} {
			wantStable(t, n, list, false, len(list), "points")
		}
		// The first one without a state that AbsStart has.
		for _, list := range [][]impl.Abs{tops(n), got.Wide} {
			wantStable(t, n, put(list, 0, nothing()), false, "no start")
			wantStable(t, n, put(list, 0, impl.AbsNorm(n, list[0])), true, "a normed start")
			if len(impl.VarsOf(n)) > 0 {
				less := remade(impl.AbsStart(n), func(a *impl.Abs) { a.Facts = impl.FactsShift(a.Facts, 1, 1) })
				wantStable(t, n, put(list, 0, less), false, "another start")
			}
			if len(impl.ArraysOf(n)) > 0 {
				less := remade(impl.AbsStart(n), func(a *impl.Abs) {
					for at := range a.Segs[0].Vals {
						a.Segs[0].Vals[at] = sure(span(0, 0))
					}
				})
				wantStable(t, n, put(list, 0, less), false, "a start with cells")
			}
		}
		// Nothing from the first point on, and nothing at all.
		wantStable(t, n, put(make([]impl.Abs, count), 0, impl.AbsStart(n)), false, "the start alone")
		wantStable(t, n, make([]impl.Abs, count), false, "nothing")
		asked += wantEdgesAsked(t, n, r, got.Wide)
	}
	if asked < 45 {
		t.Fatal(asked)
	}
}

// wantEdgesAsked: for each edge, what its end has without it is not enough, if
// something comes over it that the others do not bring. It tells how many do.
func wantEdgesAsked(t *testing.T, n impl.Node, r *rounds, wide []impl.Abs) int {
	t.Helper()
	asked := 0
	for at, e := range r.edges {
		others := nothing()
		for other, f := range r.edges {
			if f.To == e.To && other != at {
				others = joinByParts(others, r.over(other, wide[f.From]))
			}
		}
		enough := leqByParts(r.over(at, wide[e.From]), others)
		wantStable(t, n, put(wide, e.To, others), enough, "without edge", at)
		if !enough {
			asked++
		}
	}
	return asked
}

// Of each kind of edge one that alone brings something.
func TestStableByEdges(t *testing.T) {
	n := tree(t, "var i; array a[9]; read i; if i < 5 { i = 0; skip; a[i] = 1; } else { check i < 9; a[i] = 2; if i == 7 { i = 30; stop; } } i = i - 2; while i < 50 { i = i + 3; }")
	got, r := wantSolve(t, n)
	kinds := map[string]int{}
	for at, e := range r.edges {
		others := slices.DeleteFunc(slices.Clone(r.edges), func(f impl.Edge) bool { return f.To != e.To })
		if len(others) == 1 {
			wantStable(t, n, put(got.Wide, e.To, nothing()), false, "edge", at)
		}
		// One number fewer than what is told for its end, on each side.
		for _, side := range [][2]int{{0, 1}, {1, 0}} {
			less := put(got.Wide, e.To, impl.AbsNorm(n, got.Wide[e.To]))
			a := less[e.To]
			if isNothing(a) {
				continue
			}
			a.Facts.Most[side[0]*a.Facts.Size+side[1]]--
			if enough := r.isStable(n, less); !enough {
				wantStable(t, n, less, false, "edge", at)
				kinds[strings.Fields(r.lines[at])[1]]++
			}
		}
	}
	for _, kind := range strings.Fields("read yes no set skip put check stop") {
		if kinds[kind] == 0 {
			t.Fatalf("%s: %v", kind, kinds)
		}
	}
}

// What is not ok at any one point, or of another program.
func TestStableOfWrongStates(t *testing.T) {
	n := twoArrays(t)
	got, _ := wantSolve(t, n)
	for at, wrong := range wrongAbs(t) {
		for point := range got.Wide {
			if at%len(got.Wide) != point && at > 40 {
				continue
			}
			list := put(got.Wide, point, wrong)
			if impl.Stable(n, list) || impl.Stable(n, put(tops(n), point, wrong)) {
				t.Fatalf("%d: %v at %d", at, wrong, point)
			}
			if text := impl.TableText(n, impl.Table{Points: list}); text != "" {
				t.Fatalf("%d: %v at %d: %q", at, wrong, point, text)
			}
		}
	}
	for _, other := range solvedPrograms(t) {
		list := impl.Solve(other).Wide
		if impl.Stable(n, list) || impl.Stable(other, got.Wide) || impl.TableText(n, impl.Table{Points: list}) != "" {
			t.Fatalf("%s", shown(other))
		}
	}
}

// What is not normed has the states that it has when it is.
func TestStableOfStatesAsTheyStand(t *testing.T) {
	n := tree(t, "var i; array a[?]; var j; array b[?]; i = 1; read j; skip;")
	start := impl.AbsStart(n)
	one, two := impl.AbsEdge(n, start, 0), impl.AbsEdge(n, impl.AbsEdge(n, start, 0), 1)
	list := []impl.Abs{start, one, two, two, two}
	wantStable(t, n, list, true)
	for _, none := range becomeNothing(t) {
		for point := range list {
			wantStable(t, n, put(list, point, none), false, none)
		}
		// Over an edge from what is nothing there comes nothing.
		none := []impl.Abs{start, one, none, none, nothing()}
		wantStable(t, n, none, false, none)
		stop := tree(t, "var i; array a[?]; var j; array b[?]; stop; i = 1; read j; skip;")
		wantStable(t, stop, []impl.Abs{start, none[2], none[3], none[2], none[2], start}, true, none)
	}
	loose := told(t, "i - j <= 0, j <= 5, i >= 0, j >= 0", "{0} none ? {len(a)}", "{0} none or unwritten ? {len(b)}")
	wantStable(t, n, put(tops(n), 0, loose), false)
	wantStable(t, n, put(tops(n), 0, told(t, "i - j <= 0, j <= 5", "{0} none ? {i} none or unwritten ? {len(a)}", "{0} none or unwritten ? {len(b)}")), true)
}

func TestTableText(t *testing.T) {
	for text, want := range map[string]string{
		"var x; stop; x = 1;": "point 0\nx >= 0, x <= 0\npoint 1\nnothing\npoint 2\nnothing\npoint 3\nx >= 0, x <= 0\n",
		"var i; read i;":      "point 0\ni >= 0, i <= 0\npoint 1\nany\npoint 2\nany\n",
		"skip;":               "point 0\nany\npoint 1\nany\npoint 2\nany\n",
		"array b[2]; array a[0]; b[0] = 4;": "point 0\nlen(b) >= 2, len(a) >= 0, len(b) <= 2, len(b) - len(a) <= 2, len(a) <= 0, len(a) - len(b) <= -2\nb: {0} none or unwritten {2, len(b)}\na: {0, len(a)}\n" +
			"point 1\nlen(b) >= 2, len(a) >= 0, len(b) <= 2, len(b) - len(a) <= 2, len(a) <= 0, len(a) - len(b) <= -2\nb: {0} 4..4 {1} none or unwritten {2, len(b)}\na: {0, len(a)}\n" +
			"point 2\nlen(b) >= 2, len(a) >= 0, len(b) <= 2, len(b) - len(a) <= 2, len(a) <= 0, len(a) - len(b) <= -2\nb: {0} 4..4 {1} none or unwritten {2, len(b)}\na: {0, len(a)}\n",
	} {
		n := tree(t, text)
		if got := impl.TableText(n, impl.Solve(n)); got != want {
			t.Fatalf("%s: %q", text, got)
		}
	}
	for _, n := range solvedPrograms(t) {
		got := impl.Solve(n)
		for _, list := range [][]impl.Abs{got.Points, got.Wide, tops(n), make([]impl.Abs, len(got.Points))} {
			want := ""
			for point, a := range list {
				want += "point " + strconv.Itoa(point) + "\n" + textByParts(n, a)
			}
			// What else a Table has is not asked.
			for _, one := range []impl.Table{{Points: list}, {Visits: -7, Points: list}, {Visits: math.MaxInt, Wide: got.Wide[1:], Points: list}, {Wide: []impl.Abs{{Segs: make([]impl.Seg, 9)}}, Points: list}} {
				if text := impl.TableText(n, one); text != want {
					t.Fatalf("%s: %q, want %q", shown(n), text, want)
				}
			}
			for _, code := range []int{impl.ErrForm, impl.ErrBudget, 1, -1, math.MinInt, math.MaxInt} {
				if text := impl.TableText(n, impl.Table{Code: code, Points: list}); text != "" {
					t.Fatalf("code %d: %q", code, text)
				}
			}
			for _, other := range [][]impl.Abs{nil, {}, list[1:], list[:len(list)-1], append(copyList(list), list[0]), append(copyList(list), nothing()), make([]impl.Abs, 100000)} {
				if text := impl.TableText(n, impl.Table{Wide: list, Points: other}); text != "" {
					t.Fatalf("%d points: %q", len(other), text)
				}
			}
		}
	}
	// Each as it stands, not normed.
	n := twoArrays(t)
	list := becomeNothing(t)
	want := ""
	for point, a := range list {
		want += "point " + strconv.Itoa(point) + "\n" + textByParts(n, a)
	}
	if text := impl.TableText(n, impl.Table{Points: list}); text != want || len(list) != 7 {
		t.Fatalf("%q, want %q", text, want)
	}
}

// roomyList: the same Abs in lists with room behind them, in which something else
// stands.
func roomyList(list []impl.Abs) []impl.Abs {
	room := make([]impl.Abs, 0, len(list)+2)
	for _, a := range list {
		room = append(room, roomyAbs(a))
	}
	return append(room, topOf(9, 0), impl.Abs{Segs: make([]impl.Seg, 3)})[:len(list)]
}

func wantRoomyList(t *testing.T, list, before []impl.Abs) {
	t.Helper()
	for point, a := range list {
		wantRoom(t, a, before[point])
	}
	room := list[:len(list)+2][len(list):]
	if !sameAbs(room[0], topOf(9, 0)) || !sameAbs(room[1], impl.Abs{Segs: make([]impl.Seg, 3)}) {
		t.Fatalf("behind %v", list)
	}
}

// wipeTable: writes into each list of a Table, one behind the other, and asks that
// none of those behind it has become another: no two lists share memory.
func wipeTable(t *testing.T, got impl.Table) {
	t.Helper()
	all := append(copyList(got.Wide), copyList(got.Points)...)
	wide := len(got.Wide)
	for at, want := range all {
		a := &got.Wide
		if at >= wide {
			a, at = &got.Points, at-wide
		}
		wantAbs(t, (*a)[at], want, "a list that another one shares")
		wipeAbs(t, (*a)[at])
		(*a)[at] = impl.Abs{Facts: impl.Facts{Size: -1}}
	}
	clear(got.Wide[:cap(got.Wide)])
	clear(got.Points[:cap(got.Points)])
}

// Every answer is new memory, no two lists of one share any, nothing is written
// into an argument nor behind it, and what is behind it is not read.
func TestArgumentsOfSolvingAreKept(t *testing.T) {
	for _, plain := range solvedPrograms(t) {
		n := roomyTree(plain)
		want := impl.Solve(plain)
		text := impl.TableText(plain, want)
		for range 2 {
			got := impl.Solve(n)
			if !sameTable(got, want) {
				t.Fatalf("%s: %v, want %v", shown(plain), got, want)
			}
			wide, points := roomyList(got.Wide), roomyList(got.Points)
			if !impl.Stable(n, wide) || impl.TableText(n, impl.Table{Wide: wide, Points: points}) != text {
				t.Fatal(text)
			}
			wantRoomyList(t, wide, want.Wide)
			wantRoomyList(t, points, want.Points)
			wipeTable(t, got)
			steps := impl.StepsOf(n)
			if !slices.Equal(steps, stepsByWords(plain)) {
				t.Fatal(steps)
			}
			for at := range steps[:cap(steps)] {
				steps[:cap(steps)][at] = -3
			}
			if !sameTree(n, plain) || !hasRoom(n) {
				t.Fatal(n)
			}
		}
		// A list in which each Abs is one and the same.
		same := tops(plain)
		if !impl.Stable(n, same) || impl.TableText(n, impl.Table{Points: same}) == "" || !sameList(same, tops(plain)) {
			t.Fatal(same)
		}
	}
}

// Calls at the same time give the same, with the same arguments.
func TestSolvingAtTheSameTime(t *testing.T) {
	list := solvedPrograms(t)
	spent := tree(t, "var i; var j; var k; var l; "+nestOf(4))
	var workers sync.WaitGroup
	for _, n := range list {
		want := impl.Solve(n)
		text, steps := impl.TableText(n, want), stepsByWords(n)
		for range 4 {
			workers.Add(1)
			go func() {
				defer workers.Done()
				if got := impl.Solve(n); !sameTable(got, want) || impl.TableText(n, want) != text {
					t.Errorf("%s: %v, want %v", shown(n), got, want)
				}
				if !impl.Stable(n, want.Wide) || !slices.Equal(impl.StepsOf(n), steps) {
					t.Errorf("%s", shown(n))
				}
				if got := impl.Solve(spent); !sameTable(got, impl.Table{Code: impl.ErrBudget}) {
					t.Errorf("code %d", got.Code)
				}
			}()
		}
	}
	workers.Wait()
}
