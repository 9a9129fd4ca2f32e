package tests

import (
	"math"
	"slices"
	"strconv"
	"strings"
	"sync"
	"testing"

	"loop.example/g00093/impl"
)

func alarm(edge, access, trap int) impl.Alarm {
	return impl.Alarm{Edge: edge, Access: access, Trap: trap}
}

func trapWords() []string { return []string{"index", "unwritten", "over", "check"} }

// alarmsOn reads alarms of an edge from their texts, with a comma and a blank
// between: 0 over, 1 index.
func alarmsOn(t *testing.T, edge int, text string) []impl.Alarm {
	t.Helper()
	var list []impl.Alarm
	for _, one := range strings.Split(text, ", ") {
		if one == "" {
			continue
		}
		access, word, _ := strings.Cut(one, " ")
		num, err := strconv.Atoi(access)
		trap := 1 + slices.Index(trapWords(), word)
		if err != nil || trap == 0 {
			t.Fatalf("%q is no alarm", one)
		}
		list = append(list, alarm(edge, num, trap))
	}
	return list
}

// A warner tells once more what may go wrong on an edge: going down its trees, by
// what is known in a teller.
type warner struct {
	*teller
	edge, access int
	list         []impl.Alarm
}

func (w *warner) warn(trap int) {
	one := alarm(w.edge, w.access, trap)
	if trap == 4 {
		one.Access = 0
	}
	if !w.lost && !slices.Contains(w.list, one) {
		w.list = append(w.list, one)
	}
}

func (w *warner) value(e impl.Node) impl.Range {
	var ranges []impl.Range
	for _, kid := range e.Kids {
		ranges = append(ranges, w.value(kid))
	}
	switch {
	case w.lost:
		return noRange()
	case e.Kind == impl.ExNum:
		return span(e.Num, e.Num)
	case e.Kind == impl.ExVar:
		return w.rangeOf(sym(1+slices.Index(w.labels, e.Name), 0))
	case e.Kind == impl.ExLen:
		return w.rangeOf(sym(w.length(e.Name), 0))
	case e.Kind == impl.ExCell:
		return w.read(e, ranges[0])
	}
	lo, hi := w.ends(e, ranges)
	if max(lo, hi) > bound || min(lo, hi) < -bound {
		w.warn(3)
	}
	return w.keep(within(span(lo, hi)))
}

func (w *warner) read(e impl.Node, r impl.Range) impl.Range {
	w.index(e, r)
	x, isTerm := termByWords(w.labels, e.Kids[0])
	a, b := w.place(e.Name, r, x, isTerm)
	if w.lost {
		return noRange()
	}
	v := readByNumbers(*w.row(e.Name), w.now.Facts, a, b)
	if !v.Sure {
		w.warn(2)
	}
	w.access++
	return w.keep(v.R)
}

// index: of the cell that a node names, whose index has this range.
func (w *warner) index(n impl.Node, r impl.Range) {
	if w.lost {
		return
	}
	l := sym(w.length(n.Name), 0)
	x, isTerm := termByWords(w.labels, n.Kids[0])
	isPlace := isTerm && isBelow(w.now.Facts, sym(0, 0), x, 0) && isBelow(w.now.Facts, x, l, 1)
	if !isTerm {
		isPlace = r.Lo >= 0 && r.Hi < -mostAt(w.now.Facts, 0, l.V)
	}
	if !isPlace {
		w.warn(1)
	}
}

// ends: the least and the greatest number that can come, also past the bounds.
func (w *warner) ends(e impl.Node, ranges []impl.Range) (int, int) {
	r, s := ranges[0], ranges[len(ranges)-1]
	all := around(map[int][]int{
		impl.ExNeg: {-r.Lo, -r.Hi},
		impl.ExAdd: {r.Lo + s.Lo, r.Hi + s.Hi},
		impl.ExSub: {r.Lo - s.Hi, r.Hi - s.Lo},
		impl.ExMul: {r.Lo * s.Lo, r.Lo * s.Hi, r.Hi * s.Lo, r.Hi * s.Hi},
	}[e.Kind])
	lo, hi := []int{all.Lo}, []int{all.Hi}
	if e.Kind == impl.ExSub {
		x, isX := termByWords(w.labels, e.Kids[0])
		y, isY := termByWords(w.labels, e.Kids[1])
		if isX && isY {
			lo, hi = append(lo, -w.most(y, x)), append(hi, w.most(x, y))
		}
	}
	if x, isTerm := termByWords(w.labels, e); isTerm {
		lo, hi = append(lo, x.C-mostAt(w.now.Facts, 0, x.V)), append(hi, x.C+mostAt(w.now.Facts, x.V, 0))
	}
	return slices.Max(lo), slices.Min(hi)
}

func alarmsByParts(n impl.Node, a impl.Abs, edge int) []impl.Alarm {
	e := impl.GraphOf(n).Edges[edge]
	if e.Kind == impl.EgGuard && !e.Yes {
		return nil
	}
	w := warner{teller: telling(n, a), edge: edge}
	var ranges []impl.Range
	for _, kid := range e.Node.Kids {
		ranges = append(ranges, w.value(kid))
	}
	switch e.Kind {
	case impl.EgPut:
		w.index(e.Node, ranges[0])
	case impl.EgCheck:
		if !isNothing(assumeByWords(n, a, e.Node, false)) {
			w.warn(4)
		}
	}
	return w.list
}

// wantAlarms: the alarms of an edge are as they are told otherwise, each is there
// once, and the arguments are left as they were.
func wantAlarms(t *testing.T, n impl.Node, a impl.Abs, edge int) []impl.Alarm {
	t.Helper()
	before, tree := copyAbs(a), copyTree(n)
	got := impl.AlarmsAt(n, a, edge)
	if want := alarmsByParts(n, a, edge); !slices.Equal(got, want) {
		t.Fatalf("%s: %v, edge %d: %v, want %v", shown(n), a, edge, got, want)
	}
	for at, one := range got {
		if one.Edge != edge || slices.Contains(got[:at], one) {
			t.Fatalf("%s: edge %d: %v", shown(n), edge, got)
		}
	}
	wantAbs(t, a, before, "the argument")
	if !sameTree(n, tree) {
		t.Fatalf("%v has become %v", tree, n)
	}
	return got
}

func wantAlarmTexts(t *testing.T, n impl.Node, a impl.Abs, edge int, want string) {
	t.Helper()
	if got := wantAlarms(t, n, a, edge); !slices.Equal(got, alarmsOn(t, edge, want)) {
		t.Fatalf("%s: %s edge %d: %v, want %s", shown(n), impl.AbsText(n, a), edge, got, want)
	}
}

// wantNoAlarms: of what is no program, no Abs or no edge there are none.
func wantNoAlarms(t *testing.T, n impl.Node, a impl.Abs, edge int) {
	t.Helper()
	if got := impl.AlarmsAt(n, a, edge); len(got) > 0 {
		t.Fatalf("%s: %v, edge %d: %v", shown(n), a, edge, got)
	}
}

func TestAlarmConstants(t *testing.T) {
	if impl.MaxAlarms != 5000 {
		t.Fatal(impl.MaxAlarms)
	}
}

// loose: nothing is known of the variables, and of the lengths no more than that
// they are none below 0; cells are written, or perhaps.
const loose = "len(a) >= 0, len(b) >= 0"

// at tells alarms of the first edge of a program that begins with the two arrays.
func at(t *testing.T, facts, rowA, rowB, text, want string) {
	t.Helper()
	wantAlarmTexts(t, edgeProgram(t, text), told(t, facts, rowA, rowB), 0, want)
}

func TestAlarmsOfEdges(t *testing.T) {
	n := edgeProgram(t, "skip; read i; i = a[j] + 1; a[b[i]] = b[j] + i * 9; check a[i] < i + j; if a[i] < i + j { stop; }")
	a := told(t, loose, valuesA, valuesB)
	for edge, want := range []string{
		"", "", "0 index", "0 index, 0 unwritten, 1 index, 1 unwritten, 2 over, 2 index", "0 index, 1 over, 0 check", "0 index, 1 over", "", "", "", "", "",
	} {
		wantAlarmTexts(t, n, a, edge, want)
	}
	g := impl.GraphOf(n)
	kinds := []int{impl.EgSkip, impl.EgRead, impl.EgSet, impl.EgPut, impl.EgCheck, impl.EgGuard, impl.EgStop, impl.EgGuard, impl.EgSkip, impl.EgSkip, impl.EgSkip}
	for edge, e := range g.Edges {
		if e.Kind != kinds[edge] || e.Kind == impl.EgGuard && e.Yes != (edge == 5) {
			t.Fatal(edge, e)
		}
	}
	for _, edge := range []int{-1, len(g.Edges), len(g.Edges) + 1, math.MinInt, math.MaxInt} {
		wantNoAlarms(t, n, a, edge)
	}
	// Of the head of a loop: the guard with Yes alone; the last edge of all.
	loop := edgeProgram(t, "while i + j > a[0] { i = i + j; }")
	for edge, want := range []string{"", "0 over, 0 index", "0 over", "", "", ""} {
		wantAlarmTexts(t, loop, a, edge, want)
	}
	for text, want := range map[string]string{
		"for i from a[0] to b[j] { }": "0 index", "a[0] = 1;": "0 index", "a[j] = b[i];": "0 index, 0 unwritten, 1 index",
	} {
		at(t, loose, valuesA, valuesB, text, want)
	}
	// The guard of a for is that of its while, and its last statement a step.
	last := edgeProgram(t, "for i from 0 to b[j] { skip; }")
	for edge, want := range []string{"", "", "0 index, 0 unwritten", "", "0 over", "", "", ""} {
		wantAlarmTexts(t, last, a, edge, want)
	}
}

// A write to a cell is no TrapUnwritten, and its place is asked for behind all else.
func TestAlarmsOfWrites(t *testing.T) {
	none := "{0} none or unwritten {len(a)}"
	for _, one := range []struct{ facts, text, want string }{
		{"i >= 0, i - len(a) <= -1", "a[i] = 1;", ""}, {"i >= 0", "a[i] = 1;", "0 index"}, {"i - len(a) <= -1", "a[i] = 1;", "0 index"}, {"", "a[i] = 1;", "0 index"}, {"", "a[len(a) - 1] = 1;", "0 over, 0 index"}, {"len(a) >= 0", "a[len(a) - 1] = 1;", "0 index"}, {"len(a) >= 1", "a[len(a) - 1] = 1;", ""}, {"", "a[len(a)] = 1;", "0 index"},
		// So many accesses as came ahead in both.
		{"", "a[i] = b[0];", "0 index, 0 unwritten, 1 index"}, {"", "a[b[0]] = 1;", "0 index, 0 unwritten, 1 index"}, {"", "a[b[0]] = b[1] + b[2];", "0 index, 0 unwritten, 1 index, 1 unwritten, 2 index, 2 unwritten, 3 index"}, {"len(b) >= 3, i >= 0, i - len(a) <= -1", "a[i] = b[0] * b[b[2] + 1];", "0 unwritten, 1 unwritten, 2 unwritten"}, {"len(b) >= 1", "b[0] = b[0];", "0 unwritten"},
		// What the index traps on comes ahead of the value, its place behind it.
		{"", "a[i + j] = i + j;", "0 over, 0 index"}, {"", "a[i] = i + j;", "0 over, 0 index"}, {"", "a[i + j] = b[0] + i;", "0 over, 0 index, 0 unwritten, 1 over, 1 index"}, {"len(b) >= 1", "a[b[0] + i] = b[0];", "0 unwritten, 1 over, 1 unwritten, 2 index"},
		// What the value makes known counts: that a has a cell at i, that b has three.
		{"", "b[i] = b[i];", "0 index, 0 unwritten"}, {"len(a) - len(b) <= 0", "b[j] = b[j + 1];", "0 over, 0 index, 0 unwritten, 1 index"}, {"j >= 0", "b[j] = b[j + 1];", "0 over, 0 index, 0 unwritten"}, {"", "b[1] = b[2];", "0 index, 0 unwritten"}, {"", "b[2] = b[1];", "0 index, 0 unwritten, 1 index"},
		// But not for a range that was told ahead of it.
		{"i <= 5, len(b) >= 9", "b[i * 1] = b[i];", "0 index, 0 unwritten, 1 index"}, {"i >= 0, i <= 5", "b[i * 1] = b[5];", "0 index, 0 unwritten"}, {"i >= 0, i <= 5", "b[i * 1] = b[4];", "0 index, 0 unwritten, 1 index"},
	} {
		at(t, one.facts, none, valuesB, one.text, one.want)
	}
}

// The order in which an edge is worked out, each alarm once.
func TestOrderOfAlarms(t *testing.T) {
	for _, one := range []struct{ text, want string }{
		{"i = a[i + j];", "0 over, 0 index"}, {"i = b[i + j];", "0 over, 0 index, 0 unwritten"}, {"i = a[b[j]];", "0 index, 0 unwritten, 1 index"}, {"i = b[a[j]];", "0 index, 1 index, 1 unwritten"}, {"i = b[b[j] + i] + i;", "0 index, 0 unwritten, 1 over, 1 index, 1 unwritten, 2 over"},
		{"i = a[i] + b[j];", "0 index, 1 index, 1 unwritten"}, {"i = b[j] - a[i];", "0 index, 0 unwritten, 1 index"}, {"i = (i + j) * b[0];", "0 over, 0 index, 0 unwritten"}, {"i = (i + j) * a[0];", "0 over, 0 index, 1 over"}, {"i = b[0] * (i + j);", "0 index, 0 unwritten, 1 over"},
		{"check b[0] < a[0];", "0 index, 0 unwritten, 1 index"}, {"check b[0] > a[0];", "0 index, 0 unwritten, 1 index, 0 check"}, {"check a[0] < b[0];", "0 index, 1 index, 1 unwritten, 0 check"}, {"check i + j < a[i];", "0 over, 0 index, 0 check"}, {"check a[i] < i + j;", "0 index, 1 over, 0 check"}, {"if b[0] == a[0] { }", "0 index, 0 unwritten, 1 index"}, {"while a[0] != b[0] { }", "0 index, 1 index, 1 unwritten"},
		{"i = a[a[a[0]]];", "0 index, 1 index, 2 index"}, {"i = -b[-i];", "0 index, 0 unwritten"},
		// Once.
		{"i = i + j + i;", "0 over"}, {"i = i + j - (i * j) * i;", "0 over"}, {"i = i * j + a[i + j] - (i * j + i);", "0 over, 0 index, 1 over"}, {"i = a[i * j + i] + a[9] + i * j;", "0 over, 0 index, 1 index, 2 over"}, {"a[i + j] = i * j;", "0 over, 0 index"}, {"check i + j < i * j;", "0 over, 0 check"},
	} {
		edge := 0
		if strings.HasPrefix(one.text, "while") {
			edge = 1
		}
		wantAlarmTexts(t, edgeProgram(t, one.text), told(t, "", valuesA, valuesB), edge, one.want)
	}
}

// Access: how many accesses came ahead, of all that there are.
func TestAccessesOfAlarms(t *testing.T) {
	high := "{0} 600000..600000 ? {len(a)}"
	for _, one := range []struct{ facts, text, want string }{
		{"len(a) >= 2", "i = a[0] + a[1];", "2 over"}, {"len(a) >= 2", "i = a[0] + a[1] + i;", "2 over"}, {"len(a) >= 2", "i = 600000 + a[1];", "1 over"}, {"len(a) >= 2", "i = i + j + a[1];", "0 over, 1 over"}, {"len(a) >= 2", "i = a[0] + i * j + a[1];", "1 over, 2 over"}, {"len(a) >= 9", "i = 0 * a[0] + 0 * a[1] + 0 * a[2] + a[3] + a[4];", "5 over"},
		{"", "i = 0 * a[0] + 0 * a[1] + a[0] + a[2];", "0 index, 1 index, 3 index, 4 over"}, {"len(a) >= 2", "a[0] = a[1] + a[0];", "2 over"}, {"len(a) >= 2", "a[a[0] - a[1]] = a[1] + a[0];", "4 over"}, {"len(a) >= 2", "check a[1] < a[0] + a[0];", "3 over"}, {"len(a) >= 2", "check a[1] + i < a[0];", "1 over, 0 check"},
	} {
		at(t, one.facts, high, valuesB, one.text, one.want)
	}
	// The longest line of accesses that a program can have.
	text := "i = a[0]" + strings.Repeat(" + a[0]", 19) + ";"
	var want []string
	for access := range 20 {
		want = append(want, strconv.Itoa(access)+" unwritten")
	}
	at(t, "len(a) >= 1", "{0} 0..1 or unwritten ? {len(a)}", valuesB, text, strings.Join(want, ", "))
}

// Where nothing is left, what came ahead is told, and no more.
func TestWhereAlarmsEnd(t *testing.T) {
	bare := "{0} none or unwritten {len(b)}"
	for _, one := range []struct{ facts, text, want string }{
		// An index that is no place for certain.
		{"", "i = b[-1];", "0 index"}, {"", "i = b[len(b)];", "0 index"}, {"i <= -1", "i = b[i] + i;", "0 index"}, {"i - len(b) >= 0", "i = b[i] + i * j;", "0 index"}, {"len(b) <= 2", "i = b[2] + a[7];", "0 index"}, {"i <= -1", "i = b[i * 1] + a[i];", "0 index"}, {"len(b) <= 3", "i = b[1001] + a[0];", "0 index"}, {"i >= 3, len(b) <= 3", "i = b[i * 1] * i * j;", "0 index"},
		{"", "i = a[b[-1]];", "0 index"}, {"", "i = a[i] + b[-1] + a[j];", "0 index, 1 index"}, {"", "i = i + j + b[-1] + a[j];", "0 over, 0 index"}, {"", "i = b[-1] - i * j;", "0 index"}, {"", "i = b[-1] * a[j];", "0 index"}, {"", "i = -b[-1] + i * j;", "0 index"},
		{"", "check b[-1] < i + j;", "0 index"}, {"", "check a[0] < b[-1];", "0 index, 1 index"}, {"", "if b[-1] < a[0] { }", "0 index"}, {"", "a[b[-1]] = i + j;", "0 index"}, {"", "a[-1] = i + j;", "0 over, 0 index"}, {"", "a[-1] = b[-1];", "0 index"}, {"", "a[j] = b[-1] + i * j;", "0 index"}, {"", "b[i + j] = b[-1] + a[0];", "0 over, 0 index"},
		// A cell that is told to be unwritten alone.
		{"len(b) >= 1", "i = b[0];", "0 unwritten"}, {"", "i = b[0];", "0 index, 0 unwritten"}, {"len(b) >= 1", "i = b[0] + i * j;", "0 unwritten"}, {"len(b) >= 1", "i = a[b[0]];", "0 unwritten"}, {"len(b) >= 1", "i = a[0] + b[0] + a[0];", "0 index, 1 unwritten"}, {"len(b) >= 1", "check b[0] < i + j;", "0 unwritten"}, {"len(b) >= 1", "if b[0] < i + j { }", "0 unwritten"}, {"len(b) >= 1", "a[b[0]] = i + j;", "0 unwritten"}, {"len(b) >= 1", "a[-1] = b[0];", "0 unwritten"}, {"len(b) >= 1", "check i < b[0];", "0 unwritten"}, {"i >= 0, i - len(b) <= -1", "j = b[i] * i * j;", "0 unwritten"}, {"i >= 0, i <= 3, len(b) >= 4", "j = -b[i * 1] + a[j];", "0 unwritten"},
		// A number that is too great, or too small, for certain.
		{"", "i = 1000000 + 1 + a[0];", "0 over"}, {"", "i = a[1000000 + 1];", "0 over"}, {"", "i = a[i] + (0 - 1000000 - 1) + a[0];", "0 index, 1 over"}, {"i >= 600000, j >= 600000", "i = i + j - a[0];", "0 over"}, {"i >= 600000, j >= 600000", "i = a[0] * 0 + i * j + a[0];", "0 index, 1 over"}, {"i <= -600000, j >= 600000", "i = i - j + a[0];", "0 over"}, {"i - j >= 1000001", "i = i - j + a[0];", "0 over"}, {"i - j <= -1000001", "i = (i - j) * a[0];", "0 over"}, {"i >= 2000, j <= -2000", "i = i * j + a[0];", "0 over"},
		{"", "check 1000000 + 1 < a[0];", "0 over"}, {"", "check a[0] < 1000000 + 1;", "0 index, 1 over"}, {"", "if 1000000 + 1 < a[0] { }", "0 over"}, {"", "a[1000000 + 1] = a[0];", "0 over"}, {"", "a[-1] = 1000000 + 1;", "0 over"}, {"", "a[0] = a[0] + 1001 * 1000;", "0 index, 1 over"},
		// What is left may still be a place, a number, or true.
		{"i <= 0", "j = a[i] + a[i];", "0 index"}, {"", "i = a[0] + a[0];", "0 index"}, {"i >= 1000000", "j = i + 0;", ""}, {"", "i = a[5] + a[0] + a[5] + a[6];", "0 index, 3 index"}, {"i <= 999999", "i = i + 1;", ""},
	} {
		at(t, one.facts, valuesA, bare, one.text, one.want)
	}
}

func TestAlarmsOver(t *testing.T) {
	for _, one := range []struct{ facts, expr, want string }{
		// A sign -: what comes is within the bounds whenever the number is.
		{"", "-i", ""}, {"i = 1000000", "-i", ""}, {"i = -1000000", "-i", ""}, {"", "-1000000", ""}, {"", "-(i - i)", ""}, {"", "-(i + j)", "0 over"},
		// Sums: just at the bound and one past it, above and below.
		{"i <= 999999, i >= -1000000", "i + 1", ""}, {"i <= 1000000", "i + 1", "0 over"}, {"i = 1000000", "i + 1", "0 over"}, {"i = 999999", "i + 1", ""}, {"i >= -999999", "i + -1", ""}, {"i >= -1000000", "i + -1", "0 over"}, {"i <= 500000, i >= 0, j <= 500000, j >= 0", "i + j", ""}, {"i <= 500000, i >= 0, j <= 500001, j >= 0", "i + j", "0 over"}, {"i <= 500001, i >= 0, j <= 500000, j >= 0", "j + i", "0 over"}, {"i >= -500000, i <= 0, j >= -500000, j <= 0", "i + j", ""}, {"i >= -500000, i <= 0, j >= -500001, j <= 0", "i + j", "0 over"}, {"i >= -500001, i <= 0, j >= -500000, j <= 0", "i + j", "0 over"},
		{"", "500000 + 500000", ""}, {"", "500000 + 500001", "0 over"}, {"", "0 - 500000 + -500000", ""}, {"", "0 - 500000 + -500001", "0 over"}, {"i <= 0", "i + 1001", ""}, {"i <= 998999", "i + 1001", ""}, {"i <= 999000", "i + 1001", "0 over"},
		// Differences.
		{"i >= -999999", "i - 1", ""}, {"", "i - 1", "0 over"}, {"i <= 999999", "i - -1", ""}, {"", "i - -1", "0 over"}, {"j >= -999999", "1 - j * 1", ""}, {"", "1 - j * 1", "0 over"}, {"", "0 - j * 1", ""}, {"", "0 - j", ""}, {"", "-1 - j * 1", "0 over"}, {"j <= 999999, j >= -1000000", "-1 - j * 1", ""}, {"i <= 500000, i >= -500000, j <= 500000, j >= -500000", "i * 1 - j", ""}, {"i <= 500001, i >= -500000, j <= 500000, j >= -500000", "i * 1 - j", "0 over"}, {"i <= 500000, i >= -500001, j <= 500000, j >= -500000", "i * 1 - j", "0 over"}, {"i <= 500000, i >= -500000, j <= 500001, j >= -500000", "i * 1 - j", "0 over"}, {"i <= 500000, i >= -500000, j <= 500000, j >= -500001", "i * 1 - j", "0 over"},
		// Of two terms, by what is known of the two: both sides.
		{"", "i - j", "0 over"}, {"i - j <= 1000000", "i - j", "0 over"}, {"i - j >= -1000000", "i - j", "0 over"}, {"i - j <= 1000000, i - j >= -1000000", "i - j", ""}, {"i - j <= 1000001, i - j >= -1000000", "i - j", "0 over"}, {"i - j <= 1000000, i - j >= -1000001", "i - j", "0 over"}, {"i - j <= 1000000, i - j >= -1000000", "i * 1 - j", "0 over"}, {"i - j <= 1000000, i - j >= -1000000", "i - j * 1", "0 over"},
		{"i - j <= 5, i - j >= -5", "i - j - 999995", ""}, {"i - j <= 5, i - j >= -6", "i - j - 999995", "0 over"}, {"i - j <= 999990, i - j >= -5, i <= 999990, j >= -999990", "i + 4 - (j - 6)", ""}, {"i - j <= 999991, i - j >= -5, i <= 999990, j >= -999990", "i + 4 - (j - 6)", "0 over"}, {"i - j <= 1000000, i - j >= -999993, i <= 999993, j <= 999990", "i - (j + 7)", ""}, {"i - j <= 1000000, i - j >= -999994, i <= 999993, j <= 999990", "i - (j + 7)", "0 over"},
		{"len(a) >= 0, len(a) <= 60", "len(a) - i", "0 over"}, {"i >= 0, i - len(a) <= 0", "len(a) - i", ""},
		// Of one symbol, which the whole is without.
		{"", "i - i", ""}, {"", "i * 1 - i", "0 over"}, {"i <= 999993", "i + 7 - i", ""}, {"", "len(a) - len(a)", ""}, {"i - j = 0", "i - j", ""}, {"i <= 999000, i >= -999000", "i + 900 - (i - 100)", ""}, {"i <= 999000, i >= -999000", "i + 901 - (i - 100)", ""},
		// The whole is a term again, but a part of it was too great.
		{"", "i + 5 - 5", "0 over"}, {"i <= 999995", "i + 5 - 5", ""}, {"", "i - 7 + 7", "0 over"}, {"i >= -999993", "i - 7 + 7", ""},
		// Products of ranges of all signs: each of the four can be the one.
		{"i <= 1000, i >= -1000, j <= 1000, j >= -1000", "i * j", ""}, {"i <= 1001, i >= -1000, j <= 1000, j >= -999", "i * j", "0 over"}, {"i <= 1000, i >= -1001, j <= 999, j >= -1000", "i * j", "0 over"}, {"i <= 1000, i >= -999, j <= 1001, j >= -999", "i * j", "0 over"}, {"i <= 999, i >= -1000, j <= 999, j >= -1001", "i * j", "0 over"}, {"i <= 3, i >= -1000, j <= 2, j >= -1001", "i * j", "0 over"}, {"i <= 3, i >= -1000, j <= 1001, j >= -2", "i * j", "0 over"}, {"i <= 1001, i >= -2, j <= 3, j >= -1000", "i * j", "0 over"}, {"i <= 1001, i >= -2, j <= 1000, j >= -3", "i * j", "0 over"}, {"i <= 3, i >= -1000, j <= 2, j >= -1000", "i * j", ""}, {"i <= 3, i >= -1000, j <= 1000, j >= -2", "i * j", ""}, {"i <= 1000, i >= -2, j <= 3, j >= -1000", "i * j", ""}, {"i <= 1000, i >= -2, j <= 1000, j >= -3", "i * j", ""},
		{"", "1000 * 1000", ""}, {"", "1000 * -1000", ""}, {"", "1000 * 1001", "0 over"}, {"", "1000 * -1001", "0 over"}, {"", "0 * i", ""}, {"", "1 * i", ""}, {"", "2 * i", "0 over"}, {"i <= 500000, i >= -500000", "2 * i", ""}, {"i <= 500001, i >= -500000", "2 * i", "0 over"}, {"i <= 500000, i >= -500001", "2 * i", "0 over"}, {"", "i * j", "0 over"},
		// Numbers of cells.
		{"len(a) >= 1", "a[0] + 999995", ""}, {"len(a) >= 1", "a[0] + 999996", "1 over"}, {"len(a) >= 1", "0 - 1000000 + a[0]", ""}, {"len(a) >= 1", "0 - 1000000 - a[0]", "1 over"}, {"len(a) >= 1", "a[0] * 200000", ""}, {"len(a) >= 1", "a[0] * 200001", "1 over"}, {"len(a) >= 1", "-a[0] - 999995", ""}, {"len(a) >= 1", "-a[0] - 999996", "1 over"},
	} {
		for _, text := range []string{"j = %;", "check i - i == 0 * (%);", "if i < % { }"} {
			at(t, one.facts, valuesA, valuesB, strings.Replace(text, "%", one.expr, 1), one.want)
		}
		// Behind an access, and in an index: one more.
		put := strings.Replace("b[a[0]] = %;", "%", one.expr, 1)
		facts := strings.TrimPrefix(one.facts+", len(a) >= 1, len(b) >= 6", ", ")
		want := strings.NewReplacer("1 over", "2 over", "0 over", "1 over").Replace(one.want)
		at(t, facts, valuesA, valuesB, put, want)
	}
}

func TestAlarmsOfIndexes(t *testing.T) {
	for _, one := range []struct{ facts, index, want string }{
		// A term, just within and one past, by facts of the two alone, or by ranges.
		{"i >= 0, i - len(a) <= -1", "i", ""}, {"i >= -1, i - len(a) <= -1", "i", "0 index"}, {"i >= 0, i - len(a) <= 0", "i", "0 index"}, {"i - len(a) <= -1", "i", "0 index"}, {"i >= 0", "i", "0 index"}, {"", "i", "0 index"}, {"i >= 0, i <= 4, len(a) >= 5", "i", ""}, {"i >= 0, i <= 5, len(a) >= 5", "i", "0 index"}, {"i >= 0, i <= 4, len(a) >= 4", "i", "0 index"}, {"i >= -1, i <= 4, len(a) >= 5", "i", "0 index"}, {"i = 0, len(a) >= 1", "i", ""}, {"i = 0, len(a) >= 0", "i", "0 index"},
		{"j >= 0, i - j >= 0, i - len(a) <= -1", "i", ""}, {"j >= 0, i - j >= -1, i - len(a) <= -1", "i", "0 index"}, {"i >= 0, i - j <= 0, j - len(a) <= -1", "i", ""}, {"i >= 0, i - j <= 1, j - len(a) <= -1", "i", "0 index"}, {"i >= 0, i - len(b) <= -1, len(a) - len(b) = 0", "i", ""}, {"i >= 0, i - len(b) <= -1", "i", "0 index"},
		{"i >= -1, i - len(a) <= -2", "i + 1", ""}, {"i >= -2, i - len(a) <= -2", "i + 1", "0 index"}, {"i >= -1, i - len(a) <= -1", "i + 1", "0 index"}, {"i >= 1, i - len(a) <= 0", "i - 1", ""}, {"i >= 0, i - len(a) <= 0", "i - 1", "0 index"}, {"i >= 1, i - len(a) <= 1", "i - 1", "0 index"}, {"i >= -1000, i <= -1000, len(a) >= 1", "i + 1000", ""}, {"i >= -1000, i <= -999, len(a) >= 1", "i + 1000", "0 index"},
		{"len(a) >= 1", "len(a) - 1", ""}, {"len(a) >= 0", "len(a) - 1", "0 index"}, {"len(a) >= 3", "len(a) - 3", ""}, {"len(a) >= 2", "len(a) - 3", "0 index"}, {"len(a) >= 9", "len(a)", "0 index"}, {"len(b) >= 0, len(b) - len(a) <= -1", "len(b)", ""}, {"len(b) >= 0, len(b) - len(a) <= 0", "len(b)", "0 index"},
		{"len(a) >= 1", "0", ""}, {"len(a) >= 0", "0", "0 index"}, {"len(a) >= 5", "4", ""}, {"len(a) >= 4", "4", "0 index"}, {"len(a) >= 9", "-1", "0 index"}, {"len(a) >= 1", "-0", ""}, {"len(a) >= 1", "i - i", ""}, {"len(a) >= 6", "2 * 3 - 1", ""}, {"len(a) >= 5", "2 * 3 - 1", "0 index"}, {"len(a) >= 1001", "1000", ""}, {"len(a) >= 1000", "1000", "0 index"},
		// None: its range alone counts, and the least that the length can be.
		{"i >= 0, i <= 4, len(a) >= 5", "i * 1", ""}, {"i >= 0, i <= 4, len(a) >= 4", "i * 1", "0 index"}, {"i >= 0, i <= 5, len(a) >= 5", "i * 1", "0 index"}, {"i >= -1, i <= 4, len(a) >= 5", "i * 1", "0 index"}, {"i >= 0, i - len(a) <= -1", "i * 1", "0 index"}, {"i >= 0, i - len(a) <= -1, i <= 4", "i * 1", "0 index"}, {"i = 4, i - len(a) <= -1", "i * 1", ""}, {"i = 4, i - len(a) <= 0", "i * 1", "0 index"}, {"i >= 0, i <= 4, len(a) - len(b) >= 2, len(b) >= 3", "i * 1", ""}, {"i >= 0, i <= 4, len(a) - len(b) >= 2, len(b) >= 2", "i * 1", "0 index"},
		{"len(a) >= 1002", "1001", ""}, {"len(a) >= 1001", "1001", "0 index"}, {"i - j >= 0, i - j <= 2, len(a) >= 3, i <= 999, i >= 0", "i - j", ""}, {"i - j >= 0, i - j <= 3, len(a) >= 3, i <= 999, i >= 0", "i - j", "0 index"}, {"i - j >= -1, i - j <= 2, len(a) >= 3, i <= 999, i >= 0", "i - j", "0 index"}, {"i >= 0, j >= 0, i <= 2, j <= 2, len(a) >= 5", "i + j", ""}, {"i >= 0, j >= 0, i <= 2, j <= 2, len(a) >= 4", "i + j", "0 index"}, {"i >= -4, i <= 0, len(a) >= 5", "-i", ""}, {"i >= -4, i <= 1, len(a) >= 5", "-i", "0 index"}, {"i >= -5, i <= 0, len(a) >= 5", "-i", "0 index"}, {"i >= 0, i <= 2, len(a) >= 5", "i * i", ""}, {"i >= -1, i <= 2, len(a) >= 5", "i * i", "0 index"},
		// A number of a cell, which is from 2 to 5.
		{"len(a) >= 6", "a[0]", ""}, {"len(a) >= 5", "a[0]", "1 index"}, {"len(a) >= 4", "a[0] - 2", ""}, {"len(a) >= 3", "a[0] - 2", "1 index"}, {"len(a) >= 9", "a[0] - 3", "1 index"}, {"", "a[0]", "0 index, 1 index"}, {"i >= 0, i - len(a) <= -1, len(a) >= 6", "a[a[i]]", ""}, {"len(a) >= 6", "a[a[i]]", "0 index"},
	} {
		at(t, one.facts, valuesA, valuesB, "j = a["+one.index+"];", one.want)
		at(t, one.facts, valuesA, valuesB, "a["+one.index+"] = j;", one.want)
		at(t, one.facts, valuesA, valuesB, "if a["+one.index+"] >= 0 { }", one.want)
		at(t, one.facts, valuesA, valuesB, "check a["+one.index+"] >= 0;", one.want)
	}
	// Lengths as they are declared: given ones, and one that is not.
	for text, want := range map[string]string{
		"array a[3]; a[2] = 1;": "", "array a[3]; a[3] = 1;": "0 index", "array a[3]; a[0 - 1] = 1;": "0 index", "array a[0]; a[0] = 1;": "0 index", "array a[1]; a[0] = 1;": "", "array a[?]; a[0] = 1;": "0 index", "array a[?]; a[59] = 1;": "0 index", "array a[60]; a[59] = 1;": "",
		"var i; array a[1]; a[i] = 1;": "", "var i; array a[1]; a[i * 1] = 1;": "", "var i; array a[1]; a[i + 1] = 1;": "0 index", "array a[1]; a[len(a)] = 1;": "0 index", "array a[1]; a[len(a) * 1 - 1] = 1;": "", "array a[2]; array b[2]; a[len(b) - 1] = 1;": "",
	} {
		n := tree(t, text)
		wantAlarmTexts(t, n, impl.AbsStart(n), 0, want)
	}
}

func TestAlarmsOfUnwrittenCells(t *testing.T) {
	const parts = "{0} 1..1 ? {i} 2..2 or unwritten ? {j} none or unwritten ? {len(a)}"
	const places = "i >= 1, j - i >= 1, j - len(a) <= -1"
	for _, one := range []struct{ facts, row, expr, want string }{
		// Surely written, perhaps, never.
		{"len(a) >= 1", "{0} 1..1 {len(a)}", "a[0]", ""}, {"len(a) >= 1", "{0} 1..1 or unwritten {len(a)}", "a[0]", "0 unwritten"}, {"len(a) >= 1", "{0} none or unwritten {len(a)}", "a[0]", "0 unwritten"}, {"len(a) >= 1", "{0} none or unwritten {len(a)}", "a[0] + a[0]", "0 unwritten"}, {"len(a) >= 1", "{0} 1..1 or unwritten {len(a)}", "a[0] + a[0]", "0 unwritten, 1 unwritten"},
		{places, parts, "a[i - 1]", ""}, {places, parts, "a[0]", ""}, {places, parts, "a[i]", "0 unwritten"}, {places, parts, "a[j]", "0 unwritten"}, {places, parts, "a[j - 1]", "0 unwritten"}, {places, parts, "a[i - 1] + a[i - 1] * a[0]", ""}, {places, parts, "a[0] + a[i]", "1 unwritten"}, {places, parts, "a[i] + a[0]", "0 unwritten"}, {places, parts, "a[j] + a[i]", "0 unwritten"}, {places, parts, "a[i] + a[j]", "0 unwritten, 1 unwritten"},
		// No term: all cells where it may be.
		{"len(a) >= 3", "{0} 1..1 {2} none or unwritten ? {len(a)}", "a[len(b) * 0 + 1]", ""}, {"len(a) >= 3", "{0} 1..1 {2} none or unwritten ? {len(a)}", "a[len(b) * 0 + 2]", "0 unwritten"}, {"len(a) >= 4, i >= 0, i <= 1", "{0} 1..1 {2} none or unwritten ? {len(a)}", "a[i * 1]", ""}, {"len(a) >= 4, i >= 0, i <= 2", "{0} 1..1 {2} none or unwritten ? {len(a)}", "a[i * 1]", "0 unwritten"}, {"len(a) >= 4, i >= 2, i <= 3", "{0} none or unwritten {2} 1..1 ? {len(a)}", "a[i * 1]", ""}, {"len(a) >= 4, i >= 1, i <= 3", "{0} none or unwritten {2} 1..1 ? {len(a)}", "a[i * 1]", "0 unwritten"},
		// Behind the index that makes its place known.
		{"", "{0} 1..1 ? {i} none or unwritten ? {len(a)}", "a[i - 1]", "0 over, 0 index"}, {"", "{0} 1..1 ? {i} none or unwritten ? {len(a)}", "a[i]", "0 index, 0 unwritten"}, {"i - j <= -1", "{0} 1..1 ? {i} 2..2 ? {j} none or unwritten ? {len(a)}", "a[i] + a[j - 1]", "0 index, 1 index"}, {"", "{0} 1..1 ? {i} 2..2 ? {j} none or unwritten ? {len(a)}", "a[j]", "0 index, 0 unwritten"},
		// Of the row as the facts sharpen it: what can have no cell is not read.
		{"j >= 5, i - len(a) <= -1, i >= 0", "{0} 1..1 ? {i, j} none or unwritten ? {5} 2..2 ? {len(a)}", "a[i]", ""}, {"j >= 4, i - len(a) <= -1, i >= 0", "{0} 1..1 ? {i, j} none or unwritten ? {5} 2..2 ? {len(a)}", "a[i]", "0 unwritten"},
		{"i >= 0, i - len(a) <= -1", "{0} none or unwritten ? {len(b)} 1..1 ? {len(a)}", "a[i]", "0 unwritten"}, {"i >= 0, i - len(a) <= -1, len(b) = 0", "{0} none or unwritten ? {len(b)} 1..1 ? {len(a)}", "a[i]", ""}, {"i >= 0, i - len(a) <= -1, len(b) - len(a) = 0", "{0} 1..1 ? {len(b)} none or unwritten ? {len(a)}", "a[i]", ""},
	} {
		at(t, one.facts, one.row, valuesB, "j = "+one.expr+";", one.want)
		at(t, one.facts, one.row, valuesB, "if "+one.expr+" < 9 { }", one.want)
		want := strings.TrimPrefix(strings.NewReplacer("1 ", "2 ", "0 ", "1 ").Replace(one.want), ", ")
		if want = "0 index, " + want; !strings.Contains(one.facts, "len(b)") {
			at(t, one.facts, one.row, "{0} 1..1 ? {len(b)}", "j = b[9] * 0 + "+one.expr+";", strings.TrimSuffix(want, ", "))
		}
	}
}

func TestAlarmsOfChecks(t *testing.T) {
	for _, one := range []struct{ facts, cond, want string }{
		// For certain, perhaps, never.
		{"i - j <= -1", "i < j", ""}, {"i - j <= 0", "i < j", "0 check"}, {"", "i < j", "0 check"}, {"i - j >= 0", "i < j", "0 check"}, {"i - j <= 0", "i <= j", ""}, {"i - j <= 1", "i <= j", "0 check"}, {"i - j >= 1", "i > j", ""}, {"i - j >= 0", "i > j", "0 check"}, {"i - j >= 0", "i >= j", ""}, {"i - j >= -1", "i >= j", "0 check"}, {"i - j = 0", "i == j", ""}, {"i - j <= 0", "i == j", "0 check"}, {"i - j >= 0", "i == j", "0 check"}, {"i - j <= -1", "i != j", ""}, {"i - j >= 1", "i != j", ""}, {"i - j = 0", "i != j", "0 check"}, {"", "i != j", "0 check"},
		{"", "0 < 1", ""}, {"", "1 < 1", "0 check"}, {"", "i == i", ""}, {"", "i < i", "0 check"}, {"i >= 3, i <= 4", "i * i >= 9", ""}, {"i >= 3, i <= 4", "i * i >= 10", "0 check"}, {"i >= 3, i <= 4", "i * i >= 17", "0 check"}, {"i = 3", "i * i == 9", ""}, {"i = 3", "i * i != 9", "0 check"},
		// At last, and with no number of accesses, however many came ahead.
		{"len(a) >= 2", "a[0] >= 2", ""}, {"len(a) >= 2", "a[0] >= 3", "0 check"}, {"len(a) >= 2", "a[0] >= 6", "0 check"}, {"len(a) >= 2", "a[0] + a[1] <= 10", ""}, {"len(a) >= 2", "a[0] + a[1] <= 9", "0 check"}, {"len(a) >= 2", "a[0] + a[1] < a[0]", "0 check"}, {"", "a[0] <= 5", "0 index"}, {"", "a[0] < 5", "0 index, 0 check"}, {"", "a[0] < a[1]", "0 index, 1 index, 0 check"}, {"", "a[0] - b[1] <= 6", "0 index, 1 index, 1 unwritten"}, {"", "a[0] - b[1] < 6", "0 index, 1 index, 1 unwritten, 0 check"}, {"i >= 0", "b[i] + i < 1000000", "0 index, 0 unwritten, 0 check"}, {"i >= 0", "i + b[i] + 2 < 0", "0 index, 0 unwritten, 1 over, 0 check"},
		// What was worked out counts: that the index is a place.
		{"", "a[i] >= 2 - i + i", "0 index, 1 over, 0 check"}, {"", "a[i] >= i - i", "0 index"}, {"", "i >= a[i] * 0", "0 index"}, {"", "a[i] * 0 <= i", "0 index"}, {"", "i < a[i] * 0 + len(a)", "0 index, 0 check"}, {"", "a[i] * 0 < len(a)", "0 index"}, {"", "len(a) > a[i] * 0", "0 index"}, {"len(a) <= 60", "i - a[i] <= 57", "0 index, 1 over, 0 check"}, {"i >= 0, len(a) <= 60", "i - a[i] <= 57", "0 index, 0 check"}, {"i >= 0, i <= 59", "i - a[i] <= 57", "0 index"}, {"i >= 0, i <= 59", "i - a[i] <= 56", "0 index, 0 check"},
		// Where working it out cannot go on, nothing is told of it.
		{"", "a[-1] < i", "0 index"}, {"", "1000000 + 1 < i", "0 over"}, {"i = 1000000", "i + 1 > i", "0 over"},
	} {
		at(t, one.facts, valuesA, valuesB, "check "+one.cond+";", one.want)
		at(t, one.facts, valuesA, valuesB, "if "+one.cond+" { stop; }", strings.TrimPrefix(strings.TrimSuffix(", "+one.want, ", 0 check"), ", "))
	}
}

// checksOf: programs with a check and a guard for each of the conditions.
func checksOf(t *testing.T) []impl.Node {
	t.Helper()
	var list []impl.Node
	for part := range slices.Chunk(stepConds(), 12) {
		text := ""
		for at, cond := range part {
			text += []string{"check " + cond + "; ", "if " + cond + " { } "}[at%2]
		}
		list = append(list, edgeProgram(t, text))
	}
	return list
}

// Each edge of many programs with each Abs, as told otherwise.
func TestAlarmsByParts(t *testing.T) {
	counts, ended, none := map[int]int{}, 0, 0
	programs := append(stepPrograms(t), checksOf(t)...)
	for k, a := range manyTold(t) {
		for round, n := range programs {
			if (round+k)%4 > 0 {
				continue
			}
			for edge, e := range impl.GraphOf(n).Edges {
				if e.Kind == impl.EgSkip && k > 4 {
					continue
				}
				list := wantAlarms(t, n, a, edge)
				for _, one := range list {
					counts[one.Trap]++
				}
				if e.Kind <= impl.EgPut && len(list) == 0 {
					none++
				}
				if len(list) > 0 && isNothing(impl.AbsEdge(n, a, edge)) {
					ended++
				}
			}
		}
	}
	if counts[1] < 800 || counts[2] < 150 || counts[3] < 100 || counts[4] < 300 || ended < 500 || none < 150 {
		t.Fatal(counts, ended, none)
	}
}

// Of what is no program, no Abs or nothing there are no alarms.
func TestAlarmsOfWrongStates(t *testing.T) {
	n := edgeProgram(t, "i = a[j] + j; a[i] = i + j; check i + j < j; if i < a[0] { stop; }")
	for edge := -1; edge < 9; edge++ {
		for _, wrong := range wrongAbs(t) {
			wantNoAlarms(t, n, wrong, edge)
		}
		for _, none := range append(becomeNothing(t), nothing(), impl.Abs{Segs: []impl.Seg{}}) {
			wantNoAlarms(t, n, none, edge)
		}
		for _, wrong := range wrongPrograms(t) {
			for _, a := range []impl.Abs{nothing(), topOf(0, 0), topOf(1, 0), topOf(1, 1), topOf(2, 2), told(t, loose, valuesA, valuesB)} {
				wantNoAlarms(t, wrong, a, edge)
			}
		}
		// An Abs of another program.
		if edge != 1 {
			wantNoAlarms(t, n, topOf(2, 1), edge)
			wantNoAlarms(t, n, topOf(3, 2), edge)
		}
	}
	wantAlarmTexts(t, n, topOf(2, 2), 0, "0 index, 0 unwritten, 1 over")
	// What is not normed has the alarms of what it is when it is.
	a := told(t, "i - j <= 0, j - len(a) <= -1, i >= 0", "{0} none ? {i} 1..1 ? {len(a)}", valuesB)
	for _, one := range []struct{ text, want string }{{"j = a[i];", ""}, {"i = a[j];", ""}, {"j = a[j - i];", "0 index"}, {"j = a[i] + b[i];", "1 index, 1 unwritten"}} {
		n := edgeProgram(t, one.text)
		wantAlarmTexts(t, n, a, 0, one.want)
		wantAlarmTexts(t, n, impl.AbsNorm(n, a), 0, one.want)
	}
}

func wantAlarmsOf(t *testing.T, text, want string) {
	t.Helper()
	n := tree(t, text)
	list, code := impl.AlarmsOf(n)
	if got := impl.AlarmText(n, list); code != impl.OK || got != want {
		t.Fatalf("%s: %q, code %d, want %q", text, got, code, want)
	}
}

func TestAlarmsOf(t *testing.T) {
	for text, want := range map[string]string{
		// None at all.
		"skip;": "", "var i; stop;": "", "var i; i = 1; while i < 3 { i = i + 1; }": "", "var i; array a[?]; for i from 0 to len(a) { a[i] = 5; } for i from 0 to len(a) { a[i] = a[i] + 1; }": "", "var i; read i; read i;": "",
		// To what follows a trap for certain, and what no run comes to, nothing comes.
		"array a[2]; a[2] = 1; a[3] = 1;": "edge 0 access 0 index\n", "array a[2]; stop; a[3] = 1;": "", "var i; if i < 0 { i = 1000000 + 1; } check i == 0;": "", "var i; check i > 0; check i > 1;": "edge 0 access 0 check\n",
		// Of several edges, in their order.
		"array a[?]; a[0] = 1; a[1] = a[0]; a[2] = a[1] * 1000000 + a[1];":                                       "edge 0 access 0 index\nedge 1 access 1 index\nedge 2 access 2 over\n",
		"array a[?]; array b[3]; var x; read x; b[x] = 1; x = a[b[x]];":                                          "edge 1 access 0 index\nedge 2 access 1 index\nedge 2 access 1 unwritten\n",
		"var i; array a[4]; read i; if a[i] < 2 { i = i + i; } else { a[i] = 5; } check i != 2;":                 "edge 1 access 0 index\nedge 1 access 0 unwritten\n",
		"var i; array a[4]; read i; a[i] = 7; if a[i] > 6 { check i > 1; } else { i = i * i * i; } a[i] = a[0];": "edge 1 access 0 index\nedge 3 access 0 check\nedge 8 access 0 unwritten\n",
		"var i; read i; while i < 9 { i = i - 1; } i = i + 1;":                                                   "edge 3 access 0 over\nedge 6 access 0 over\n",
		"var i; array a[5]; for i from 0 to 6 { a[i] = i; } check a[0] < 9;":                                     "edge 3 access 0 index\n",
		"array a[2]; var x; x = a[0];":                                                                           "edge 0 access 0 unwritten\n",
	} {
		wantAlarmsOf(t, text, want)
	}
}

func TestAlarmsOfPrograms(t *testing.T) {
	for at, n := range wrongPrograms(t) {
		if list, code := impl.AlarmsOf(n); len(list) > 0 || code != impl.ErrForm {
			t.Fatalf("%d: %v, code %d", at, list, code)
		}
	}
	for _, text := range []string{"var i; var j; var k; var l; " + nestOf(4), "var i; var j; var k; var l; array a[?]; a[0] = 1; " + nestOf(4) + "i = a[5];", "var i; var j; var k; var l; read i; i = i + 1; " + nestOf(4)} {
		if list, code := impl.AlarmsOf(tree(t, text)); len(list) > 0 || code != impl.ErrBudget {
			t.Fatalf("%s: %v, code %d", text, list, code)
		}
	}
	// As many visits as there may be, and one more.
	const decl, behind = "var i; var j; var k; ", "i = i + 1000000;"
	ahead := nestOf(3) + nestOf(3)
	left := impl.MaxVisits - impl.Solve(tree(t, decl+ahead+behind)).Visits
	full := spentOf(t, decl, ahead, behind, left)
	edge := len(impl.GraphOf(full).Edges) - 2
	if list, code := impl.AlarmsOf(full); code != impl.OK || !slices.Equal(list, []impl.Alarm{alarm(edge, 0, 3)}) {
		t.Fatal(list, code)
	}
	if list, code := impl.AlarmsOf(spentOf(t, decl, ahead, behind, left+1)); code != impl.ErrBudget || len(list) > 0 {
		t.Fatal(list, code)
	}
}

func TestAlarmOf(t *testing.T) {
	list := []impl.Alarm{alarm(1, 0, 3), alarm(2, 4, 1), alarm(2, 4, 2), alarm(7, 0, 4)}
	// A list may have alarms that none is.
	odd := append(slices.Clone(list), alarm(1, 0, 0), alarm(1, 0, 5), alarm(1, 0, -1), alarm(0, 0, 0), alarm(1, 0, 9), alarm(-1, -1, 2), alarm(math.MaxInt, math.MinInt, 1))
	isIn := func(list []impl.Alarm, edge, access, trap int, want bool) {
		t.Helper()
		// What else a Conf has is not asked.
		for _, c := range []impl.Conf{{}, {Point: 3, Steps: 9, Used: 2}, {Point: -1, Vars: []int{math.MaxInt}, Cells: [][]impl.Cell{nil}, Used: -1, Steps: math.MinInt}} {
			c.Edge, c.Access, c.Trap = edge, access, trap
			if got := impl.AlarmOf(list, c); got != want {
				t.Fatalf("%v, %v: %v", list, c, got)
			}
		}
	}
	for _, all := range [][]impl.Alarm{list, odd} {
		for _, one := range list {
			isIn(all, one.Edge, one.Access, one.Trap, true)
			// Another edge, access or trap, each by itself.
			isIn(all, one.Edge+2, one.Access, one.Trap, false)
			isIn(all, one.Edge, one.Access+1, one.Trap, false)
			isIn(all, one.Edge, one.Access-1, one.Trap, false)
			for trap := -1; trap <= 9; trap++ {
				isIn(all, one.Edge, one.Access, trap, trap == one.Trap || one.Edge == 2 && (trap == 1 || trap == 2))
			}
			isIn([]impl.Alarm{one}, one.Edge, one.Access, one.Trap, true)
			isIn(nil, one.Edge, one.Access, one.Trap, false)
			isIn([]impl.Alarm{}, one.Edge, one.Access, one.Trap, false)
		}
	}
	isIn(odd, -1, -1, 2, true)
	isIn(odd, math.MaxInt, math.MinInt, 1, true)
	isIn(odd, 0, 0, 0, false)
	for _, trap := range farEnds() {
		isIn([]impl.Alarm{alarm(1, 0, trap)}, 1, 0, trap, trap >= 1 && trap <= 4)
	}
	// What lies behind a list is not read.
	isIn(list[:2], 2, 4, 2, false)
	isIn(list[1:], 1, 0, 3, false)
}

func TestAlarmText(t *testing.T) {
	n := tree(t, "var x; skip; x = 1; check x == 1;")
	last := len(impl.GraphOf(n).Edges) - 1
	want := func(text string, list ...impl.Alarm) {
		t.Helper()
		before := slices.Clone(list)
		if got := impl.AlarmText(n, list); got != text || !slices.Equal(list, before) {
			t.Fatalf("%v: %q, want %q", list, got, text)
		}
	}
	want("")
	if impl.AlarmText(n, nil) != "" || last != 3 {
		t.Fatal(last)
	}
	// Whether the edge may have such an alarm is not asked, nor whether it came
	// already, nor in which order.
	for at, word := range trapWords() {
		want("edge 2 access 7 "+word+"\n", alarm(2, 7, at+1))
		want("edge 0 access 0 "+word+"\n", alarm(0, 0, at+1))
	}
	want("edge 3 access 0 check\nedge 1 access 500 over\nedge 1 access 500 over\nedge 0 access 10 index\n", alarm(3, 0, 4), alarm(1, 500, 3), alarm(1, 500, 3), alarm(0, 10, 1))
	// The edge, the access and the trap at their ends and past them, alone and with
	// others around.
	for _, one := range []struct {
		alarm impl.Alarm
		text  string
	}{
		{alarm(-1, 0, 1), ""}, {alarm(0, 0, 1), "edge 0 access 0 index\n"}, {alarm(last, 0, 1), "edge 3 access 0 index\n"}, {alarm(last+1, 0, 1), ""}, {alarm(math.MinInt, 0, 1), ""}, {alarm(math.MaxInt, 0, 1), ""},
		{alarm(1, -1, 2), ""}, {alarm(1, 499, 2), "edge 1 access 499 unwritten\n"}, {alarm(1, 500, 2), "edge 1 access 500 unwritten\n"}, {alarm(1, 501, 2), ""}, {alarm(1, math.MinInt, 2), ""}, {alarm(1, math.MaxInt, 2), ""},
		{alarm(1, 0, 0), ""}, {alarm(1, 0, 4), "edge 1 access 0 check\n"}, {alarm(1, 0, 5), ""}, {alarm(1, 0, -1), ""}, {alarm(1, 0, 9), ""}, {alarm(1, 0, math.MinInt), ""}, {alarm(1, 0, math.MaxInt), ""},
	} {
		want(one.text, one.alarm)
		around := "edge 2 access 1 over\n" + one.text + "edge 0 access 0 check\n"
		if one.text == "" {
			around = ""
		}
		want(around, alarm(2, 1, 3), one.alarm, alarm(0, 0, 4))
	}
	// As many as may be, and one more; a wrong one at the very end.
	many := slices.Repeat([]impl.Alarm{alarm(1, 2, 3)}, 5000)
	want(strings.Repeat("edge 1 access 2 over\n", 5000), many...)
	want("", append(slices.Clone(many), many[0])...)
	want("", append(slices.Clone(many[1:]), alarm(1, 2, 5))...)
	want("", slices.Repeat(many, 20)...)
	for at, wrong := range wrongPrograms(t) {
		for _, list := range [][]impl.Alarm{nil, {}, {alarm(0, 0, 1)}, many} {
			if text := impl.AlarmText(wrong, list); text != "" {
				t.Fatalf("%d: %q", at, text)
			}
		}
	}
}

// lensFor: lengths for the arrays of a program whose size is not given.
func lensFor(n impl.Node, length func(array int) int) []int {
	var lens []int
	for array, size := range impl.SizesOf(n) {
		if size < 0 {
			lens = append(lens, length(array))
		}
	}
	return lens
}

// guardedStmt: a statement that seldom can trap, or says what makes it one.
func guardedStmt(next func(int) int) string {
	name, other := pick(next, "a", "b"), pick(next, "b", "a")
	num := strconv.Itoa(next(9))
	cell := pick(next, num, "i", name+"[i]", "len("+other+")", "i * 2", name+"[i] - 1", "i + len(a)")
	up := "for i from 0 to len(" + name + ") { " + name + "[i] = " + pick(next, num, "i", "len(a) - i", "k * 0") + "; } "
	switch next(9) {
	case 0, 1:
		return up
	case 2:
		return up + "for i from 0 to len(" + name + ") { " + name + "[i] = " + cell + "; } "
	case 3:
		return "for i from 1 to len(" + name + ") { " + name + "[i - 1] = " + pick(next, num, "i") + "; } "
	case 4:
		return "read j; if 0 <= j { if j < len(" + name + ") { " + name + "[j] = " + pick(next, "j", num) + "; " + pick(next, "j = "+name+"[j] + 1; ", "check "+name+"[j] >= 0; ") + "} } "
	case 5:
		return "read k; if k < 9 { k = 9; } if k > 50 { k = " + num + " + 9; } check k >= " + pick(next, "0", "9", num) + "; "
	case 6:
		return "i = len(" + name + ") - 1; while i >= 0 { " + name + "[i] = " + pick(next, num, "i") + "; i = i - 1; } "
	case 7:
		return "k = len(a) - len(b); if len(a) > 0 { a[0] = k; k = a[0] * 2; } "
	}
	return "if len(" + name + ") > " + num + " { " + name + "[" + num + "] = " + num + "; j = " + name + "[" + num + "]; } "
}

func guardedProgram(t *testing.T, next func(int) int) impl.Node {
	t.Helper()
	text := "var i; array a[" + pick(next, "?", "3", "0") + "]; var j; array b[?]; var k; "
	for range 1 + next(3) {
		text += guardedStmt(next)
	}
	return tree(t, text)
}

// solvedRun counts what promises 15 and 17 were asked of.
type solvedRun struct {
	programs, clear, clearRuns, states, inputs int
	traps                                      [6]int
}

// keeps: promise 15 and 17 along one run, with what is told for the points.
func (k *solvedRun) keeps(t *testing.T, n impl.Node, points []impl.Abs, list []impl.Alarm, lens, inputs []int) {
	t.Helper()
	c, _ := impl.Begin(n, lens)
	for range 90 {
		k.states++
		if !impl.AbsHas(n, points[c.Point], c) {
			t.Fatalf("%s: %v has not %v", shown(n), points[c.Point], c)
		}
		after := impl.Step(n, c, inputs)
		if after.Trap == 0 && after.Steps > c.Steps {
			c = after
			continue
		}
		k.traps[after.Trap]++
		if impl.AlarmOf(list, after) != (after.Trap >= 1 && after.Trap <= 4) {
			t.Fatalf("%s: %v ends as %v", shown(n), list, after)
		}
		break
	}
	if len(list) == 0 {
		k.clearRuns++
	}
}

func (k *solvedRun) solve(t *testing.T, next func(int) int, n impl.Node) {
	t.Helper()
	got := impl.Solve(n)
	if impl.Check(n).Code != impl.OK || got.Code != impl.OK {
		return
	}
	list, code := impl.AlarmsOf(n)
	if code != impl.OK {
		t.Fatalf("%s: code %d", shown(n), code)
	}
	if k.programs++; len(list) == 0 {
		k.clear++
	}
	for _, most := range []int{0, 2, 6} {
		var inputs []int
		for range next(6) {
			inputs = append(inputs, []int{next(5), next(5) - 2, next(70), bound - next(2), -bound}[min(next(5), next(5))])
		}
		lens := lensFor(n, func(int) int { return min(next(most+1)+next(2), 5) })
		k.keeps(t, n, got.Points, list, lens, inputs)
	}
}

// Promises 15 and 17, over programs of all kinds, with many sizes and inputs.
func TestAlarmsOfRuns(t *testing.T) {
	next := draws(1700)
	var k, guarded solvedRun
	for round := range 200 {
		n := runProgram(t, next)
		if round%4 == 3 {
			n = rightProgram(next)
		}
		k.solve(t, next, n)
		guarded.solve(t, next, guardedProgram(t, next))
	}
	if k.programs < 150 || k.states < 4000 || slices.Min(k.traps[1:]) < 10 {
		t.Fatalf("%+v", k)
	}
	if guarded.programs < 180 || guarded.clear < 60 || guarded.clearRuns < 180 || guarded.states < 8000 || guarded.traps[5] < 20 {
		t.Fatalf("%+v", guarded)
	}
}

// Those of a program are those of its edges, one behind the other, each by what is
// told for the point where it begins.
func TestAlarmsOfAllEdges(t *testing.T) {
	next := draws(1701)
	list := solvedPrograms(t)
	// What is told ahead of the last pass has more alarms.
	for _, text := range []string{"var i; i = 1; while i < 2 + 1 { i = i + 1; } i = i + 999990;", "var i; var j; while i < 3 { i = i + 1; } while j < 5 { j = j + i; } i = j + 999993;"} {
		list = append(list, tree(t, text))
	}
	for round := range 80 {
		n := runProgram(t, next)
		if round%5 == 4 {
			n = rightProgram(next)
		}
		list = append(list, n, guardedProgram(t, next))
	}
	programs, alarms, closer := 0, 0, 0
	for _, n := range list {
		solved := impl.Solve(n)
		got, code := impl.AlarmsOf(n)
		if code != solved.Code {
			t.Fatalf("%s: code %d, want %d", shown(n), code, solved.Code)
		}
		if code != impl.OK {
			continue
		}
		var want, wide []impl.Alarm
		for edge, e := range impl.GraphOf(n).Edges {
			want = append(want, wantAlarms(t, n, solved.Points[e.From], edge)...)
			wide = append(wide, impl.AlarmsAt(n, solved.Wide[e.From], edge)...)
		}
		if !slices.Equal(got, want) {
			t.Fatalf("%s: %v, want %v", shown(n), got, want)
		}
		programs, alarms = programs+1, alarms+len(got)
		if !slices.Equal(want, wide) {
			closer++
		}
	}
	if programs < 150 || alarms < 100 || closer < 2 {
		t.Fatal(programs, alarms, closer)
	}
}

func straightIndex(next func(int) int) string {
	return pick(next, "0", "1", "2", "3", "4", "-1", "1000", "1001", "-0", "1000000")
}

func straightExpr(next func(int) int, deep int) string {
	if deep <= 0 || next(3) == 0 {
		return pick(next, strconv.Itoa(next(4)), "i", "j", "a["+straightIndex(next)+"]", "b["+straightIndex(next)+"]", "len(a)", "len(b)", "1000000", "999", "1000")
	}
	one, two := straightExpr(next, deep-1), straightExpr(next, deep-1)
	return pick(next, one+" + "+two, one+" - ("+two+")", "("+one+") * ("+two+")", "-("+one+")")
}

func straightStmt(next func(int) int) string {
	switch next(12) {
	case 0, 1, 2, 3:
		return pick(next, "i", "j") + " = " + straightExpr(next, next(3)) + "; "
	case 4, 5, 6, 7, 8:
		return pick(next, "a", "b") + "[" + straightIndex(next) + "] = " + straightExpr(next, next(2)) + "; "
	case 9, 10:
		one := straightExpr(next, 1)
		return "check " + one + " " + strings.Fields("<= == >= < > !=")[min(next(6), next(6))] + " " + pick(next, one, straightExpr(next, 1)) + "; "
	}
	return pick(next, "skip; ", "stop; ")
}

// straightProgram: one as promise 18 has them, whose run seldom ends early.
func straightProgram(t *testing.T, next func(int) int) impl.Node {
	t.Helper()
	size := func() string { return strconv.Itoa(4 - min(next(5), next(5))) }
	text := "var i; array a[" + size() + "]; var j; array b[" + size() + "]; "
	left := next(9)
	for tries := 0; left > 0 && tries < 30; tries++ {
		longer := text + straightStmt(next)
		if trap := impl.RunTo(tree(t, longer), nil, nil, 20).Trap; trap == 0 || next(20) == 0 || trap >= 3 && next(3) == 0 {
			text = longer
			left--
		}
	}
	return tree(t, text)
}

// Promise 18: just the trap of the run, or none.
func TestAlarmsOfStraightPrograms(t *testing.T) {
	next := draws(1702)
	traps, steps := [6]int{}, [12]int{}
	for range 2500 {
		n := straightProgram(t, next)
		c := impl.RunTo(n, nil, nil, 100)
		var want []impl.Alarm
		if c.Trap != 0 {
			want = []impl.Alarm{alarm(c.Edge, c.Access, c.Trap)}
		}
		if got, code := impl.AlarmsOf(n); code != impl.OK || !slices.Equal(got, want) {
			t.Fatalf("%s: %v, code %d, want %v", shown(n), got, code, want)
		}
		traps[c.Trap]++
		steps[c.Steps]++
	}
	if slices.Min(traps[:5]) < 40 || traps[0] < 1000 || steps[8]+steps[9] < 100 {
		t.Fatal(traps, steps)
	}
	for text, want := range map[string]string{
		"var i; array a[4]; var j; array b[4]; a[3] = 7; i = a[3]; b[0] = i * i; b[1] = b[0] + i; j = b[1]; a[0] = j; check a[0] == 56; check a[0] == b[0];": "edge 7 access 0 check\n",
		"var i; array a[4]; var j; array b[1]; i = 1000; i = i * i; b[0] = i; j = 1 - i; a[2] = j; j = a[2] - 1; check j == -1000000; j = j - b[0];":         "edge 7 access 1 over\n",
		"var i; array a[3]; var j; array b[3]; a[0] = 1; a[1] = 2; a[2] = 3; b[2] = a[0] + a[1]; b[1] = b[2] * a[2]; b[0] = b[1] - b[2]; i = b[0]; j = i;":   "",
		"var i; array a[4]; var j; array b[0]; a[1] = 1; i = a[1]; j = i + 2; a[3] = j; a[0] = a[3] * 2; i = a[0] + a[1] + a[3] + a[2]; a[2] = 0;":           "edge 5 access 3 unwritten\n",
		"var i; array a[4]; var j; array b[2]; b[1] = 4; b[0] = b[1]; i = b[0]; j = i; a[3] = i - j; i = a[3]; b[2] = b[0] + b[1];":                          "edge 6 access 2 index\n",
	} {
		wantAlarmsOf(t, text, want)
	}
}

// Every answer is new memory, nothing is written into an argument nor behind it,
// and what is behind it is not read.
func TestArgumentsOfAlarmsAreKept(t *testing.T) {
	programs := append(stepPrograms(t), checksOf(t)[:2]...)
	for at, one := range manyTold(t) {
		a, plain := roomyAbs(one), programs[at%len(programs)]
		n := roomyTree(plain)
		for edge := range impl.GraphOf(plain).Edges {
			want := alarmsByParts(plain, one, edge)
			for range 2 {
				got := impl.AlarmsAt(n, a, edge)
				if !slices.Equal(got, want) {
					t.Fatalf("%s: edge %d: %v, want %v", shown(plain), edge, got, want)
				}
				got = got[:cap(got)]
				for k := range got {
					got[k] = alarm(-1, -1, -1)
				}
				wantRoom(t, a, one)
			}
		}
		if !sameTree(n, plain) || !hasRoom(n) {
			t.Fatal(n)
		}
	}
	for _, plain := range append(solvedPrograms(t), tree(t, "array a[?]; array b[3]; var x; read x; b[x] = 1; x = a[b[x]];")) {
		n := roomyTree(plain)
		want, _ := impl.AlarmsOf(plain)
		for range 2 {
			got, code := impl.AlarmsOf(n)
			if !slices.Equal(got, want) || code != impl.OK {
				t.Fatalf("%s: %v, want %v", shown(plain), got, want)
			}
			// With others behind the list, which are neither read nor written.
			list := append(slices.Clone(got), alarm(0, 0, 4), alarm(-1, 9, 9))
			room := list[:len(got)]
			if text := impl.AlarmText(n, room); text != impl.AlarmText(plain, want) || strings.Count(text, "\n") != len(want) {
				t.Fatalf("%q", text)
			}
			if impl.AlarmOf(room, impl.Conf{Trap: 4}) != slices.Contains(want, alarm(0, 0, 4)) || !slices.Equal(list[len(got):], []impl.Alarm{alarm(0, 0, 4), alarm(-1, 9, 9)}) || !slices.Equal(room, want) {
				t.Fatal(list)
			}
			got = got[:cap(got)]
			for k := range got {
				got[k] = alarm(-1, -1, -1)
			}
		}
		if !sameTree(n, plain) || !hasRoom(n) {
			t.Fatal(n)
		}
	}
}

// Calls at the same time give the same, with the same arguments.
func TestAlarmsAtTheSameTime(t *testing.T) {
	spent := tree(t, "var i; var j; var k; var l; "+nestOf(4))
	n := edgeProgram(t, "a[b[i + j]] = b[j] + i * 9;")
	a := told(t, loose, valuesA, valuesB)
	one := alarmsByParts(n, a, 0)
	var workers sync.WaitGroup
	for _, program := range append(solvedPrograms(t), n) {
		want, _ := impl.AlarmsOf(program)
		text := impl.AlarmText(program, want)
		for range 4 {
			workers.Add(1)
			go func() {
				defer workers.Done()
				if got, code := impl.AlarmsOf(program); !slices.Equal(got, want) || code != impl.OK || impl.AlarmText(program, want) != text {
					t.Errorf("%s: %v, want %v", shown(program), got, want)
				}
				if got := impl.AlarmsAt(n, a, 0); !slices.Equal(got, one) || !impl.AlarmOf(one, impl.Conf{Access: 2, Trap: 1}) {
					t.Errorf("%v, want %v", got, one)
				}
				if got, code := impl.AlarmsOf(spent); len(got) > 0 || code != impl.ErrBudget {
					t.Errorf("%v, code %d", got, code)
				}
			}()
		}
	}
	workers.Wait()
	if len(one) != 7 {
		t.Fatal(one)
	}
}
