package tests

import (
	"math"
	"slices"
	"strconv"
	"strings"
	"testing"

	"loop.example/g00093/impl"
)

// condOf reads a condition.
func condOf(t *testing.T, text string) impl.Node {
	t.Helper()
	return tree(t, "check "+text+";").Kids[0].Kids[0].Kids[0]
}

// meetOf: the numbers that two ranges have.
func meetOf(a, b impl.Range) impl.Range { return within(span(max(a.Lo, b.Lo), min(a.Hi, b.Hi))) }

// A teller tells once more what is known behind expressions: while their words
// are read, part by part, with what the chapters ahead tell told otherwise. Where
// nothing is left it is lost, and reads on without telling anything.
type teller struct {
	vars, arrays, labels []string
	now                  impl.Abs
	lost                 bool
	words                []string
}

func telling(n impl.Node, a impl.Abs) *teller {
	w := teller{vars: impl.VarsOf(n), arrays: impl.ArraysOf(n), labels: impl.LabelsOf(n), now: normByParts(a)}
	w.lost = isNothing(w.now)
	return &w
}

// told: what a teller tells in the end.
func (w *teller) told() impl.Abs {
	if w.lost {
		return nothing()
	}
	return normByParts(w.now)
}

func (w *teller) listen(text string) *teller {
	list, _ := impl.Words(text)
	for _, one := range list {
		w.words = append(w.words, one.Text)
	}
	return w
}

func (w *teller) take() string {
	one := w.words[0]
	w.words = w.words[1:]
	return one
}

func (w *teller) comes(texts ...string) bool {
	return len(w.words) > 0 && slices.Contains(texts, w.words[0])
}

// term: the term of the words from a place on that have been read.
func (w *teller) term(from []string) (impl.Sym, bool) {
	r := wordTerm{words: from[:len(from)-len(w.words)], labels: w.labels}
	x := r.sum()
	return x, !r.bad
}

// keep: a range that must have a number.
func (w *teller) keep(r impl.Range) impl.Range {
	w.lost = w.lost || r == noRange()
	return r
}

// add: one more fact.
func (w *teller) add(i, j, c int) {
	if w.lost {
		return
	}
	w.now.Facts = addedFact(w.now.Facts, i, j, c)
	w.lost = isNoFacts(w.now.Facts)
}

// inRange: a symbol is in a range.
func (w *teller) inRange(v int, r impl.Range) {
	if w.keep(r); !w.lost {
		w.add(v, 0, r.Hi)
		w.add(0, v, -r.Lo)
	}
}

// rangeOf: the numbers that a symbol and a number can be.
func (w *teller) rangeOf(x impl.Sym) impl.Range {
	if w.lost {
		return noRange()
	}
	return within(span(x.C-mostAt(w.now.Facts, 0, x.V), x.C+mostAt(w.now.Facts, x.V, 0)))
}

// most: the most that a term less another one can be.
func (w *teller) most(x, y impl.Sym) int { return mostAt(w.now.Facts, x.V, y.V) + x.C - y.C }

// whole: the range of the words from a place on, of all that can come.
func (w *teller) whole(from []string, nums ...int) impl.Range {
	r := within(around(nums))
	if x, isTerm := w.term(from); isTerm {
		r = meetOf(r, w.rangeOf(x))
	}
	return w.keep(r)
}

func (w *teller) sum() impl.Range {
	from := w.words
	r := w.product()
	for w.comes("+", "-") {
		x, isX := w.term(from)
		sign, mid := w.take(), w.words
		s := w.product()
		y, isY := w.term(mid)
		if sign == "+" {
			r = w.whole(from, r.Lo+s.Lo, r.Lo+s.Hi, r.Hi+s.Lo, r.Hi+s.Hi)
			continue
		}
		r = w.whole(from, r.Lo-s.Lo, r.Lo-s.Hi, r.Hi-s.Lo, r.Hi-s.Hi)
		if isX && isY && !w.lost {
			r = w.keep(meetOf(r, within(span(-w.most(y, x), w.most(x, y)))))
		}
	}
	return r
}

func (w *teller) product() impl.Range {
	from := w.words
	r := w.one()
	for w.comes("*") {
		w.take()
		s := w.one()
		r = w.whole(from, r.Lo*s.Lo, r.Lo*s.Hi, r.Hi*s.Lo, r.Hi*s.Hi)
	}
	return r
}

func (w *teller) one() impl.Range {
	from := w.words
	word := w.take()
	if num, err := strconv.Atoi(word); err == nil {
		return span(num, num)
	}
	switch {
	case word == "-":
		r := w.one()
		return w.whole(from, -r.Lo, -r.Hi)
	case word == "(":
		r := w.sum()
		w.take()
		return r
	case word == "len":
		w.words = w.words[3:]
		return w.rangeOf(sym(1+slices.Index(w.labels, strings.Join(from[:4], "")), 0))
	case w.comes("["):
		return w.cell(word)
	}
	return w.rangeOf(sym(1+slices.Index(w.labels, word), 0))
}

// cell: what a cell has whose index comes in [ ].
func (w *teller) cell(name string) impl.Range {
	w.take()
	from := w.words
	r := w.sum()
	x, isTerm := w.term(from)
	w.take()
	a, b := w.place(name, r, x, isTerm)
	if w.lost {
		return noRange()
	}
	return w.keep(readByNumbers(*w.row(name), w.now.Facts, a, b).R)
}

func (w *teller) row(name string) *impl.Seg { return &w.now.Segs[slices.Index(w.arrays, name)] }

func (w *teller) length(name string) int { return 1 + len(w.vars) + slices.Index(w.arrays, name) }

// place: an index of this range, which may be a term, is a place of the array.
func (w *teller) place(name string, r impl.Range, x impl.Sym, isTerm bool) (a, b impl.Sym) {
	l := w.length(name)
	a, b = x, x
	if isTerm {
		w.add(0, x.V, x.C)
		w.add(x.V, l, -1-x.C)
	} else if r = w.keep(meetOf(r, span(0, bound))); !w.lost {
		if w.add(0, l, -1-r.Lo); !w.lost {
			a, b = sym(0, r.Lo), sym(0, min(r.Hi, mostAt(w.now.Facts, l, 0)-1))
		}
	}
	if !w.lost {
		*w.row(name) = sharpenByGroups(*w.row(name), w.now.Facts)
	}
	return a, b
}

// below: what is left of two ranges where a number of the one is below one of
// the other by so much.
func below(a, b impl.Range, by int) (impl.Range, impl.Range) {
	return meetOf(a, span(-bound, b.Hi-by)), meetOf(b, span(a.Lo+by, bound))
}

// trimmed: a range without an end that is all that another one has.
func trimmed(a, b impl.Range) impl.Range {
	switch {
	case b.Lo != b.Hi:
	case b.Lo == a.Lo:
		a.Lo++
	case b.Lo == a.Hi:
		a.Hi--
	}
	return within(a)
}

// A gapOf says that a term is below another one by so much.
type gapOf struct {
	x, y impl.Sym
	by   int
}

// held: what is left of two ranges, and the gaps that two terms have, where a
// condition with this sign holds.
func (w *teller) held(sign string, r, s impl.Range, x, y impl.Sym) (impl.Range, impl.Range, []gapOf) {
	switch sign {
	case "<", "<=":
		by := 2 - len(sign)
		r, s = below(r, s, by)
		return r, s, []gapOf{{x, y, by}}
	case ">", ">=":
		by := 2 - len(sign)
		s, r = below(s, r, by)
		return r, s, []gapOf{{y, x, by}}
	case "==":
		return meetOf(r, s), meetOf(r, s), []gapOf{{x, y, 0}, {y, x, 0}}
	}
	return trimmed(r, s), trimmed(s, r), nil
}

// assume: the condition that comes holds, or does not.
func (w *teller) assume(yes bool) {
	from := w.words
	r := w.sum()
	x, isX := w.term(from)
	sign := w.take()
	mid := w.words
	s := w.sum()
	y, isY := w.term(mid)
	if !yes {
		sign = map[string]string{"<": ">=", ">=": "<", "<=": ">", ">": "<=", "==": "!=", "!=": "=="}[sign]
	}
	if w.lost {
		return
	}
	r, s, gaps := w.held(sign, r, s, x, y)
	w.keep(r)
	w.keep(s)
	if isX && x.V > 0 {
		w.inRange(x.V, within(span(r.Lo-x.C, r.Hi-x.C)))
	}
	if isY && y.V > 0 {
		w.inRange(y.V, within(span(s.Lo-y.C, s.Hi-y.C)))
	}
	if isX && isY && !w.lost {
		for _, one := range [][2]impl.Sym{{x, y}, {y, x}} {
			if sign == "!=" && w.most(one[0], one[1]) <= 0 {
				gaps = append(gaps, gapOf{one[0], one[1], 1})
			}
		}
		for _, one := range gaps {
			w.add(one.x.V, one.y.V, one.y.C-one.x.C-one.by)
		}
	}
	w.rows(func(_ int, s impl.Seg) impl.Seg { return sharpenByGroups(s, w.now.Facts) })
}

// rows: each row becomes another one.
func (w *teller) rows(tell func(l int, s impl.Seg) impl.Seg) {
	for array, s := range w.now.Segs {
		if !w.lost {
			w.now.Segs[array] = tell(1+len(w.vars)+array, s)
		}
	}
}

func (w *teller) forget(v int) {
	if !w.lost {
		w.now.Facts = freedFacts(w.now.Facts, v)
		w.rows(func(l int, s impl.Seg) impl.Seg { return forgetByPlaces(l, s, v) })
	}
}

// set: the variable gets the value that comes.
func (w *teller) set(name string) {
	v := 1 + slices.Index(w.vars, name)
	from := w.words
	r := w.sum()
	x, isTerm := w.term(from)
	switch {
	case w.lost:
	case !isTerm:
		w.forget(v)
		w.inRange(v, r)
	case x.V == v:
		w.now.Facts = shiftedFacts(w.now.Facts, v, x.C)
		w.rows(func(l int, s impl.Seg) impl.Seg { return shiftByPlaces(l, s, v, x.C) })
	default:
		w.now.Facts = freedFacts(w.now.Facts, v)
		w.add(v, x.V, x.C)
		w.add(x.V, v, -x.C)
		w.rows(func(l int, s impl.Seg) impl.Seg { return copyByPlaces(l, s, v, x.V, x.C) })
	}
}

// put: the cell whose index comes gets the value that comes behind.
func (w *teller) put(name string) {
	w.take()
	from := w.words
	r := w.sum()
	x, isTerm := w.term(from)
	w.words = w.words[2:]
	s := w.sum()
	a, b := w.place(name, r, x, isTerm)
	switch {
	case w.lost:
	case isTerm:
		*w.row(name) = writeByPieces(len(w.labels)+1, w.length(name), *w.row(name), w.now.Facts, x, s)
	default:
		*w.row(name) = weakByNumbers(*w.row(name), w.now.Facts, a, b, s)
	}
}

// cross: what a line of the graph's text does.
func (w *teller) cross(line string) {
	parts := strings.SplitN(strings.TrimSuffix(line, "\n")+" ", " ", 4)
	w.listen(parts[3])
	switch parts[1] {
	case "set":
		name := w.take()
		w.take()
		w.set(name)
	case "put":
		w.put(w.take())
	case "read":
		w.forget(1 + slices.Index(w.vars, w.words[1]))
	case "yes", "check":
		w.assume(true)
	case "no":
		w.assume(false)
	}
}

func valueByWords(n impl.Node, a impl.Abs, e impl.Node) (impl.Abs, impl.Range) {
	w := telling(n, a).listen(impl.ExprText(e))
	r := w.sum()
	if w.lost {
		return nothing(), noRange()
	}
	return w.told(), r
}

func assumeByWords(n impl.Node, a impl.Abs, cond impl.Node, yes bool) impl.Abs {
	w := telling(n, a).listen(impl.ExprText(cond))
	w.assume(yes)
	return w.told()
}

func edgeByWords(n impl.Node, a impl.Abs, edge int) impl.Abs {
	w := telling(n, a)
	w.cross(strings.SplitAfter(impl.GraphText(impl.GraphOf(n)), "\n")[edge])
	return w.told()
}

// wantNormed: an answer that is ok, and normed already.
func wantNormed(t *testing.T, n impl.Node, got impl.Abs) impl.Abs {
	t.Helper()
	wantAbsOk(t, n, got, true)
	wantAbs(t, normByParts(got), got, "normed")
	return got
}

// wantValue, wantAssume and wantEdge: what is told is as it is told otherwise, is
// normed, and leaves the arguments as they were.
func wantValue(t *testing.T, n impl.Node, a impl.Abs, e impl.Node) (impl.Abs, impl.Range) {
	t.Helper()
	before := copyAbs(a)
	got, r := impl.AbsValue(n, a, e)
	want, s := valueByWords(n, a, e)
	wantAbs(t, got, want, shown(n), impl.ExprText(e), before)
	wantRange(t, r, s, shown(n), impl.ExprText(e), before)
	wantAbs(t, a, before, "the argument")
	if isNothing(got) != (r == noRange()) {
		t.Fatalf("%s in %v: %v, but %v", impl.ExprText(e), a, r, got)
	}
	return wantNormed(t, n, got), r
}

func wantAssume(t *testing.T, n impl.Node, a impl.Abs, cond impl.Node, yes bool) impl.Abs {
	t.Helper()
	before := copyAbs(a)
	got := impl.AbsAssume(n, a, cond, yes)
	wantAbs(t, got, assumeByWords(n, a, cond, yes), shown(n), impl.ExprText(cond), yes, before)
	wantAbs(t, a, before, "the argument")
	return wantNormed(t, n, got)
}

func wantEdge(t *testing.T, n impl.Node, a impl.Abs, edge int) impl.Abs {
	t.Helper()
	before := copyAbs(a)
	got := impl.AbsEdge(n, a, edge)
	wantAbs(t, got, edgeByWords(n, a, edge), shown(n), edge, before)
	wantAbs(t, a, before, "the argument")
	return wantNormed(t, n, got)
}

const (
	valuesA = "{0} 2..5 ? {len(a)}"
	valuesB = "{0} -1..1 or unwritten ? {len(b)}"
)

// wantTold: what is told of the two arrays, from texts; "nothing" for that.
func wantTold(t *testing.T, got impl.Abs, facts, rowA, rowB string, about ...any) {
	t.Helper()
	want := nothing()
	if facts != "nothing" {
		want = toldClosed(t, facts, rowA, rowB)
	}
	wantAbs(t, got, want, about...)
}

// Expressions without cells: what is known stays.
func TestPlainValues(t *testing.T) {
	n := twoArrays(t)
	near := "i >= -3, i <= 4, j >= 1, j <= 2"
	for _, one := range []struct{ facts, expr, want string }{
		{"", "0", "0..0"}, {"", "7", "7..7"}, {"", "1000000", "1000000..1000000"}, {"i = 3", "5", "5..5"},
		{"", "i", "-1000000..1000000"}, {near, "i", "-3..4"}, {near, "j", "1..2"}, {"i = 1000000", "i", "1000000..1000000"}, {"i - j <= 0, j <= 5", "i", "-1000000..5"},
		{"", "len(a)", "-1000000..1000000"}, {"len(a) >= 2, len(b) <= 60, len(a) - len(b) <= 0", "len(a)", "2..60"}, {"len(a) >= 2, len(b) <= 60, len(a) - len(b) <= 0", "len(b)", "2..60"},
		{near, "(i)", "-3..4"},
		// A sign -: of a number, of a term that is none behind it, of none.
		{"", "-3", "-3..-3"}, {"", "--3", "3..3"}, {"", "-0", "0..0"}, {near, "-i", "-4..3"}, {"i = -1000000", "-i", "1000000..1000000"}, {near, "-(i + j)", "-6..2"}, {near, "-(i * j)", "-8..6"}, {near, "--i", "-3..4"}, {near, "-(i - i)", "0..0"},
		{"", "-1000", "-1000..-1000"}, {"", "-1001", "-1001..-1001"}, {"", "-1000000", "-1000000..-1000000"},
		// Sums: both are terms, the whole too or not; one of them; none.
		{"", "2 + 3", "5..5"}, {near, "i + 1", "-2..5"}, {near, "1 + i", "-2..5"}, {near, "i + j", "-2..6"}, {near, "i + i", "-6..8"}, {near, "i + 1001", "998..1005"}, {near, "1 + i * j", "-5..9"}, {near, "i * j + 1", "-5..9"}, {near, "i * j + i * j", "-12..16"},
		{near, "i + 1000 + 1", "998..1005"}, {"", "600 + 600", "1200..1200"},
		// Differences likewise; of terms also by what is known of the two.
		{"", "2 - 3", "-1..-1"}, {near, "i - 1", "-4..3"}, {near, "1 - i", "-3..4"}, {near, "i - j", "-5..3"}, {near, "i * j - 1", "-7..7"}, {near, "1 - i * j", "-7..7"}, {near, "i * j - i * j", "-14..14"},
		{near + ", i - j <= 1", "i - j", "-5..1"}, {near + ", i - j >= -2", "i - j", "-2..3"}, {near + ", i - j = 0", "i - j", "0..0"}, {near + ", i - j <= 1", "j - i", "-1..5"}, {near + ", i - j <= 1", "i + 5 - (j - 2)", "2..8"}, {near + ", i - j <= 1", "i + 5 - j - 2", "-2..4"},
		{"i - j <= 1, i - j >= -2", "i - j", "-2..1"}, {"i - len(a) = -1", "len(a) - i", "1..1"}, {"len(a) - len(b) <= 3", "len(a) - len(b)", "-1000000..3"}, {"len(a) - len(b) <= 3", "len(b) - len(a)", "-3..1000000"},
		// Of one symbol with itself.
		{"", "i - i", "0..0"}, {"", "i + 7 - i", "7..7"}, {"", "i - (i + 7)", "-7..-7"}, {"", "len(b) - 3 - (len(b) - 5)", "2..2"}, {"", "i - i - (j - j)", "0..0"}, {"", "i * 1 - i * 1", "-1000000..1000000"},
		// What is known of the two goes beyond the bounds, on one side or on both.
		{"", "i - j", "-1000000..1000000"}, {"i >= 999999, j <= -999999", "0 - (i - j)", "nothing"}, {"i >= 500000, j <= -400000", "i - j", "900000..1000000"}, {"i <= -500000, j >= 400000", "i - j", "-1000000..-900000"}, {"i - j <= 1999999", "i - j", "-1000000..1000000"}, {"i - j <= -1999999", "i - j", "nothing"},
		{"i - j >= 1000000", "i - j", "1000000..1000000"}, {"i - j >= 1000001", "i - j", "nothing"}, {"i - j <= -1000000", "i - j", "-1000000..-1000000"}, {"i - j <= -1000001", "i - j", "nothing"},
		// Products.
		{"", "2 * 3", "6..6"}, {"", "2 * -3", "-6..-6"}, {near, "i * j", "-6..8"}, {near, "i * i", "-12..16"}, {near, "i * 0", "0..0"}, {near, "i * -2", "-8..6"}, {near, "2 * (i * j)", "-12..16"}, {near, "i * j * 2", "-12..16"}, {near, "i * j * (i * j)", "-48..64"}, {"", "40 * 40", "1600..1600"}, {"", "1000 * 1000", "1000000..1000000"},
		// By its whole it is a term: what is within may have cut it down already.
		{"i >= 0", "i + 5 - 5", "0..999995"}, {"i >= 0", "i + 5", "5..1000000"}, {"i <= 0", "i - 7 + 7", "-999993..0"}, {"i >= 999999", "i + 1", "1000000..1000000"}, {"", "2 * 3 - 6 + i", "-1000000..1000000"},
		// What cannot be.
		{"i = 1000000", "i + 1", "nothing"}, {"i = 1000000", "i + 1 - 1", "nothing"}, {"i = -1000000", "i - 1", "nothing"}, {"", "1000000 + 1", "nothing"}, {"", "0 - 1000000 - 1", "nothing"}, {"", "1001 * 1000", "nothing"}, {"", "1000 * -1001", "nothing"}, {"i >= 1001", "i * i", "nothing"}, {"i >= 1000", "i * i", "1000000..1000000"},
		{"i >= 600000, j >= 600000", "i + j", "nothing"}, {"i >= 600000, j >= 600000", "0 * (i + j)", "nothing"}, {"i >= 600000, j >= 600000", "-(j + i)", "nothing"}, {"i >= 600000, j >= 600000", "1 - (j + i)", "nothing"},
	} {
		a := told(t, one.facts, valuesA, valuesB)
		got, r := wantValue(t, n, a, exprOf(t, one.expr))
		if one.want == "nothing" {
			wantRange(t, r, noRange(), one)
			wantAbs(t, got, nothing(), one)
			continue
		}
		if text := impl.RangeText(r); text != one.want {
			t.Fatalf("%v: %s", one, text)
		}
		wantTold(t, got, one.facts, valuesA, valuesB, one)
	}
}

// Cells: what comes, and what is known behind: the facts and the row of a; that
// of b stays.
func TestValuesOfCells(t *testing.T) {
	n := twoArrays(t)
	sharp := "{0} 2..5 {len(a)}"
	parts := "{0} 1..1 ? {i} 2..2 ? {len(a)}"
	steps := "{0} 1..1 {1} 2..2 {2} 3..3 or unwritten ? {len(a)}"
	for _, one := range []struct{ facts, row, expr, want, after, rowAfter string }{
		// A term: surely a place, perhaps one, surely none.
		{"i >= 0, i - len(a) <= -1", sharp, "a[i]", "2..5", "i >= 0, i - len(a) <= -1", sharp},
		{"", valuesA, "a[i]", "2..5", "i >= 0, i - len(a) <= -1", sharp},
		{"i <= 5", valuesA, "a[i]", "2..5", "i >= 0, i <= 5, i - len(a) <= -1", sharp},
		{"i <= 0", valuesA, "a[i]", "2..5", "i = 0, len(a) >= 1, i - len(a) <= -1", sharp},
		{"i <= -1", valuesA, "a[i]", "nothing", "", ""},
		{"i - len(a) >= 0", valuesA, "a[i]", "nothing", "", ""}, {"i - len(a) = -1", valuesA, "a[i]", "2..5", "i >= 0, i - len(a) = -1", sharp}, {"i - len(a) >= -1", valuesA, "a[i]", "2..5", "i >= 0, i - len(a) = -1", sharp},
		{"", valuesA, "a[i + 1]", "2..5", "i >= -1, i - len(a) <= -2", sharp}, {"i <= -2", valuesA, "a[i + 1]", "nothing", "", ""}, {"i <= -1", valuesA, "a[i + 1]", "2..5", "i = -1, len(a) >= 1, i - len(a) <= -2", sharp},
		{"", valuesA, "a[i - 1]", "2..5", "i >= 1, i - len(a) <= 0", sharp}, {"i - len(a) >= 1", valuesA, "a[i - 1]", "nothing", "", ""}, {"i - len(a) >= 0", valuesA, "a[i - 1]", "2..5", "i >= 1, i - len(a) = 0", sharp},
		{"", valuesA, "a[i + 1000]", "2..5", "i >= -1000, i - len(a) <= -1001", sharp}, {"", valuesA, "a[len(b)]", "2..5", "len(b) >= 0, len(b) - len(a) <= -1", sharp},
		{"", valuesA, "a[len(a)]", "nothing", "", ""}, {"", valuesA, "a[len(a) - 1]", "2..5", "len(a) >= 1", sharp}, {"", valuesA, "a[len(a) + 1]", "nothing", "", ""}, {"len(a) <= 0", valuesA, "a[len(a) - 1]", "nothing", "", ""}, {"len(a) <= 1", valuesA, "a[len(a) - 1]", "2..5", "len(a) = 1", sharp}, {"len(a) <= 2", valuesA, "a[len(a) - 3]", "nothing", "", ""},
		{"", valuesA, "a[0]", "2..5", "len(a) >= 1", sharp}, {"len(a) <= 0", valuesA, "a[0]", "nothing", "", ""}, {"", valuesA, "a[0 - 1]", "nothing", "", ""}, {"", valuesA, "a[-1]", "nothing", "", ""}, {"", valuesA, "a[-0]", "2..5", "len(a) >= 1", sharp},
		{"len(a) <= 3", valuesA, "a[2]", "2..5", "len(a) = 3", sharp}, {"len(a) <= 2", valuesA, "a[2]", "nothing", "", ""}, {"", valuesA, "a[1000]", "2..5", "len(a) >= 1001", sharp}, {"", valuesA, "a[i - i]", "2..5", "len(a) >= 1", sharp},
		// Between bounds.
		{"i >= 1", parts, "a[i]", "2..2", "i >= 1, i - len(a) <= -1", "{0} 1..1 {i} 2..2 {len(a)}"}, {"i >= 1", parts, "a[i - 1]", "1..1", "i >= 1, i - len(a) <= 0", "{0} 1..1 {i} 2..2 ? {len(a)}"}, {"", parts, "a[j]", "1..2", "j >= 0, j - len(a) <= -1", parts}, {"i = 0", parts, "a[i]", "2..2", "i = 0, len(a) >= 1", "{0, i} 2..2 {len(a)}"},
		{"i - j <= -1", parts, "a[i]", "2..2", "i - j <= -1, i >= 0, i - len(a) <= -1", "{0} 1..1 ? {i} 2..2 {len(a)}"}, {"i - j = -1", parts, "a[j]", "2..2", "i - j = -1, j >= 0, j - len(a) <= -1", "{0} 1..1 ? {i} 2..2 {len(a)}"},
		// No term: what it can be is cut at 0 and at the greatest length.
		{"i >= 0, i <= 1", steps, "a[i * 1]", "1..2", "i >= 0, i <= 1, len(a) >= 1", steps}, {"i >= 1, i <= 2", steps, "a[i * 1]", "2..3", "i >= 1, i <= 2, len(a) >= 2", steps}, {"i = 1", steps, "a[i * 1]", "2..2", "i = 1, len(a) >= 2", steps}, {"i = 2", steps, "a[i * 1]", "3..3", "i = 2, len(a) >= 3", "{0} 1..1 {1} 2..2 {2} 3..3 or unwritten {len(a)}"},
		{"i <= 1", steps, "a[i * 1]", "1..2", "i <= 1, len(a) >= 1", steps}, {"i >= -4, i <= 0", steps, "a[i * 1]", "1..1", "i >= -4, i <= 0, len(a) >= 1", steps}, {"i >= -4, i <= -1", steps, "a[i * 1]", "nothing", "", ""}, {"", steps, "a[i * 1]", "1..3", "len(a) >= 1", steps},
		{"len(a) <= 2, i >= 0", steps, "a[i * 1]", "1..2", "len(a) >= 1, len(a) <= 2, i >= 0", "{0} 1..1 {1} 2..2 {2, len(a)}"}, {"len(a) <= 1", steps, "a[i * 1]", "1..1", "len(a) = 1", "{0} 1..1 {1} 2..2 {2, len(a)}"}, {"len(a) <= 0", steps, "a[i * 1]", "nothing", "", ""}, {"len(a) <= 2, i >= 1", steps, "a[i * 1]", "2..2", "len(a) = 2, i >= 1", "{0} 1..1 {1} 2..2 {2, len(a)}"}, {"len(a) <= 2, i >= 2", steps, "a[i * 1]", "nothing", "", ""},
		{"i >= 0", valuesA, "a[i + 1001]", "2..5", "i >= 0, len(a) >= 1002", sharp}, {"i >= 1000000", valuesA, "a[i * 1]", "nothing", "", ""}, {"i >= 999999", valuesA, "a[i * 1]", "2..5", "i >= 999999, len(a) >= 1000000", sharp}, {"i - j <= 5, i - j >= 1, len(a) >= 9", steps, "a[i - j]", "2..3", "i - j <= 5, i - j >= 1, len(a) >= 9", "{0} 1..1 {1} 2..2 {2} 3..3 or unwritten {len(a)}"},
		// A cell in the index.
		{"", valuesA, "a[a[0]]", "2..5", "len(a) >= 3", sharp}, {"len(a) <= 3", steps, "a[a[1]]", "3..3", "len(a) = 3", "{0} 1..1 {1} 2..2 {2} 3..3 or unwritten {len(a)}"}, {"len(a) <= 2", valuesA, "a[a[i]]", "nothing", "", ""}, {"len(a) = 4", steps, "a[a[a[0]]]", "3..3", "len(a) = 4", "{0} 1..1 {1} 2..2 {2} 3..3 or unwritten {len(a)}"}, {"len(a) <= 4", valuesA, "a[a[a[0]] - 1]", "2..5", "len(a) >= 3, len(a) <= 4", sharp}, {"len(a) <= 2", valuesA, "a[a[a[0]] - 1]", "nothing", "", ""},
		{"", valuesA, "a[a[j] - 2]", "2..5", "j >= 0, j - len(a) <= -1", sharp}, {"", valuesA, "a[a[j] - 6]", "nothing", "", ""},
		// Unwritten alone; and with numbers beside.
		{"", "{0} none or unwritten ? {len(a)}", "a[i]", "nothing", "", ""}, {"i >= 1", "{0} 1..1 {i} none or unwritten ? {len(a)}", "a[i]", "nothing", "", ""}, {"i >= 1", "{0} 1..1 {i} none or unwritten ? {len(a)}", "a[i - 1]", "1..1", "i >= 1, i - len(a) <= 0", "{0} 1..1 {i} none or unwritten ? {len(a)}"}, {"i >= 1", "{0} 1..1 {i} none or unwritten ? {len(a)}", "a[j]", "1..1", "i >= 1, j >= 0, j - len(a) <= -1", "{0} 1..1 {i} none or unwritten ? {len(a)}"},
		{"i >= 1", "{0} 1..1 {i} none or unwritten ? {len(a)}", "a[i] * 0", "nothing", "", ""}, {"", "{0, len(a)}", "a[0]", "nothing", "", ""}, {"", "{0, len(a)}", "a[i * j]", "nothing", "", ""}, {"i = 1", "{0} none or unwritten {i} 1..1 {len(a)}", "a[i * 1 - 1]", "nothing", "", ""},
		// Parts of others, one behind the other.
		{"", valuesA, "a[i] * 2", "4..10", "i >= 0, i - len(a) <= -1", sharp}, {"", valuesA, "-a[i]", "-5..-2", "i >= 0, i - len(a) <= -1", sharp}, {"", valuesA, "a[i] - a[i]", "-3..3", "i >= 0, i - len(a) <= -1", sharp}, {"", valuesA, "a[i] + a[j]", "4..10", "i >= 0, i - len(a) <= -1, j >= 0, j - len(a) <= -1", sharp},
		{"", valuesA, "a[i] - i", "-999997..5", "i >= 0, i - len(a) <= -1", sharp}, {"i >= -5, i <= 5", valuesA, "a[i] - i", "-3..5", "i >= 0, i <= 5, i - len(a) <= -1", sharp}, {"i >= -5, i <= 5", valuesA, "i - a[i]", "-10..3", "i >= 0, i <= 5, i - len(a) <= -1", sharp}, {"i >= -5, i <= 5", valuesA, "a[i] * i", "0..25", "i >= 0, i <= 5, i - len(a) <= -1", sharp},
		{"i - j = 1, j <= 4", steps, "a[i] + a[j]", "2..6", "i - j = 1, j <= 4, j >= 0, i - len(a) <= -1", steps}, {"i - j = 1, j <= 4, len(a) = 2", steps, "a[i] * a[j]", "1..2", "i - j = 1, j = 0, len(a) = 2", "{0} 1..1 {1} 2..2 {2, len(a)}"}, {"i - j = 1, j <= 4, len(a) = 2", steps, "a[j] * a[i]", "2..4", "i - j = 1, j = 0, len(a) = 2", "{0} 1..1 {1} 2..2 {2, len(a)}"}, {"len(a) = 2", steps, "a[i] - a[i - 1]", "0..1", "i = 1, len(a) = 2", "{0} 1..1 {1} 2..2 {2, len(a)}"}, {"len(a) = 2", steps, "a[i] - a[i - 2]", "nothing", "", ""}, {"", valuesA, "a[i] + a[-1]", "nothing", "", ""}, {"", valuesA, "a[-1] + a[i]", "nothing", "", ""},
	} {
		got, r := wantValue(t, n, told(t, one.facts, one.row, "{0} -1..1 or unwritten ? {i} 6..6 ? {len(b)}"), exprOf(t, one.expr))
		if one.want == "nothing" {
			wantRange(t, r, noRange(), one)
			wantAbs(t, got, nothing(), one)
			continue
		}
		if text := impl.RangeText(r); text != one.want {
			t.Fatalf("%v: %s", one, text)
		}
		wantTold(t, got, one.after, one.rowAfter, "{0} -1..1 or unwritten ? {i} 6..6 ? {len(b)}", one)
	}
}

// Cells of two arrays: each sharpens its own row alone, with what was known then.
func TestValuesOfTwoArrays(t *testing.T) {
	n := twoArrays(t)
	for _, one := range []struct{ facts, a, b, expr, want, after, afterA, afterB string }{
		{"", valuesA, valuesB, "a[i] + b[i]", "1..6", "i >= 0, i - len(a) <= -1, i - len(b) <= -1", "{0} 2..5 {len(a)}", "{0} -1..1 or unwritten {len(b)}"},
		{"", valuesA, valuesB, "b[i]", "-1..1", "i >= 0, i - len(b) <= -1", valuesA, "{0} -1..1 or unwritten {len(b)}"},
		{"len(a) - len(b) = 0", valuesA, valuesB, "b[i]", "-1..1", "len(a) - len(b) = 0, i >= 0, i - len(b) <= -1", valuesA, "{0} -1..1 or unwritten {len(b)}"},
		{"len(a) - len(b) = 0", valuesA, valuesB, "a[i]", "2..5", "len(a) - len(b) = 0, i >= 0, i - len(b) <= -1", "{0} 2..5 {len(a)}", valuesB},
		// That b has a cell at i + 2 is known behind a: its row is left as it was.
		{"i >= 0", "{0} 1..1 ? {i + 1} 2..2 ? {len(a)}", valuesB, "a[i] * b[i + 2]", "-1..1", "i >= 0, i - len(a) <= -1, i - len(b) <= -3", "{0} 1..1 {i + 1} 2..2 ? {len(a)}", "{0} -1..1 or unwritten {len(b)}"},
		{"len(a) - len(b) = 0", "{0} 1..1 ? {len(a) - 2} 2..2 ? {len(a)}", valuesB, "a[0] + b[2]", "0..3", "len(a) - len(b) = 0, len(b) >= 3", "{0} 1..1 ? {len(a) - 2} 2..2 {len(a)}", "{0} -1..1 or unwritten {len(b)}"},
		{"len(a) - len(b) = 0", "{0} 1..1 ? {len(a) - 2} 2..2 ? {len(a)}", valuesB, "b[2] + a[0]", "0..2", "len(a) - len(b) = 0, len(b) >= 3", "{0} 1..1 {len(a) - 2} 2..2 {len(a)}", "{0} -1..1 or unwritten {len(b)}"},
		// The index of the one is a cell of the other.
		{"", valuesA, valuesB, "b[a[0]]", "-1..1", "len(a) >= 1, len(b) >= 3", "{0} 2..5 {len(a)}", "{0} -1..1 or unwritten {len(b)}"},
		{"", valuesA, valuesB, "a[b[0]]", "2..5", "len(a) >= 1, len(b) >= 1", "{0} 2..5 {len(a)}", "{0} -1..1 or unwritten {len(b)}"},
		{"len(a) = 1", valuesA, "{0} 1..7 or unwritten ? {len(b)}", "a[b[0]]", "nothing", "", "", ""},
		{"len(b) <= 2", valuesA, valuesB, "b[a[0]]", "nothing", "", "", ""},
	} {
		got, r := wantValue(t, n, told(t, one.facts, one.a, one.b), exprOf(t, one.expr))
		if one.want == "nothing" {
			wantAbs(t, got, nothing(), one)
			continue
		}
		if text := impl.RangeText(r); text != one.want {
			t.Fatalf("%v: %s", one, text)
		}
		wantTold(t, got, one.after, one.afterA, one.afterB, one)
	}
}

func TestAbsAssume(t *testing.T) {
	n := twoArrays(t)
	sharp := "{0} 2..5 {len(a)}"
	near := "i >= 0, i <= 5, j >= 3, j <= 9"
	for _, one := range []struct{ facts, cond, yes, rowYes, no, rowNo string }{
		// Two terms of two symbols: each kind, as it holds and as it does not.
		{"", "i < j", "i - j <= -1", valuesA, "j - i <= 0", valuesA}, {"", "i <= j", "i - j <= 0", valuesA, "j - i <= -1", valuesA}, {"", "i > j", "j - i <= -1", valuesA, "i - j <= 0", valuesA}, {"", "i >= j", "j - i <= 0", valuesA, "i - j <= -1", valuesA}, {"", "i == j", "i - j = 0", valuesA, "", valuesA}, {"", "i != j", "", valuesA, "i - j = 0", valuesA},
		{near, "i < j", near + ", i - j <= -1", valuesA, "i >= 3, i <= 5, j >= 3, j <= 5, j - i <= 0", valuesA}, {near, "i <= j", near + ", i - j <= 0", valuesA, "i >= 4, i <= 5, j >= 3, j <= 4, j - i <= -1", valuesA},
		{near, "i > j", "i >= 4, i <= 5, j >= 3, j <= 4, j - i <= -1", valuesA, near + ", i - j <= 0", valuesA}, {near, "i >= j", "i >= 3, i <= 5, j >= 3, j <= 5, j - i <= 0", valuesA, near + ", i - j <= -1", valuesA}, {near, "i == j", "i >= 3, i <= 5, i - j = 0", valuesA, near, valuesA}, {near, "i != j", near, valuesA, "i >= 3, i <= 5, i - j = 0", valuesA},
		// With numbers beside the symbols.
		{"", "i + 2 < j - 1", "i - j <= -4", valuesA, "j - i <= 3, i <= 999998, j >= -999999", valuesA}, {"", "i + 2 <= j - 1", "i - j <= -3", valuesA, "j - i <= 2, i <= 999998, j >= -999999", valuesA}, {"", "i - 2 > j + 1", "j - i <= -4", valuesA, "i - j <= 3, i >= -999998, j <= 999999", valuesA}, {"", "i - 2 >= j + 1", "j - i <= -3", valuesA, "i - j <= 2, i >= -999998, j <= 999999", valuesA}, {"", "i + 1 == j + 4", "i - j = 3, i <= 999999, j <= 999996", valuesA, "i <= 999999, j <= 999996", valuesA},
		{near, "i + 2 < j - 1", "i >= 0, i <= 5, j >= 4, j <= 9, i - j <= -4", valuesA, near + ", j - i <= 3", valuesA}, {near, "i + 3 == j", near + ", j - i = 3", valuesA, near, valuesA}, {near, "i + 7 == j - 1", "i >= 0, i <= 1, j >= 8, j <= 9, j - i = 8", valuesA, near, valuesA}, {near, "i + 7 <= j - 1", "i >= 0, i <= 1, j >= 8, j <= 9, j - i >= 8", valuesA, near + ", j - i <= 7", valuesA},
		// Lengths are symbols as well.
		{"", "i < len(a)", "i - len(a) <= -1", valuesA, "len(a) - i <= 0", valuesA}, {"i >= 0", "i < len(a)", "i >= 0, i - len(a) <= -1", sharp, "i >= 0, len(a) - i <= 0", valuesA}, {"", "len(a) == len(b)", "len(a) - len(b) = 0", valuesA, "", valuesA}, {"len(a) >= 0, len(a) <= 60", "len(a) > 0", "len(a) >= 1, len(a) <= 60", sharp, "len(a) = 0", "{0, len(a)}"}, {"len(a) >= 0", "0 != len(a)", "len(a) >= 1", sharp, "len(a) = 0", "{0, len(a)}"},
		// One of them is a number.
		{"", "i < 3", "i <= 2", valuesA, "i >= 3", valuesA}, {"", "3 < i", "i >= 4", valuesA, "i <= 3", valuesA}, {"", "i + 1 < 3", "i <= 1", valuesA, "i >= 2, i <= 999999", valuesA}, {"", "i - 1 == 3", "i = 4", valuesA, "i >= -999999", valuesA}, {"i >= 3", "i <= 3", "i = 3", valuesA, "i >= 4", valuesA}, {"i >= 3", "i < 3", "nothing", "", "i >= 3", valuesA}, {"", "i < 2000", "i <= 1999", valuesA, "i >= 2000", valuesA}, {"", "2000 != i", "", valuesA, "i = 2000", valuesA}, {"", "i > 1000000", "nothing", "", "", valuesA}, {"", "i >= 1000000", "i = 1000000", valuesA, "i <= 999999", valuesA},
		// Both are.
		{"", "3 < 4", "", valuesA, "nothing", ""}, {"", "4 < 4", "nothing", "", "", valuesA}, {"", "4 <= 4", "", valuesA, "nothing", ""}, {"", "4 <= 3", "nothing", "", "", valuesA}, {"", "4 > 4", "nothing", "", "", valuesA}, {"", "4 >= 4", "", valuesA, "nothing", ""}, {"", "4 == 4", "", valuesA, "nothing", ""}, {"", "4 == 5", "nothing", "", "", valuesA}, {"", "4 != 4", "nothing", "", "", valuesA}, {"", "5 != 4", "", valuesA, "nothing", ""}, {"i = 7", "1001 < 1002", "i = 7", valuesA, "nothing", ""},
		// Terms of one symbol.
		{"", "i < i", "nothing", "", "", valuesA}, {"", "i <= i", "", valuesA, "nothing", ""}, {"", "i > i", "nothing", "", "", valuesA}, {"", "i >= i", "", valuesA, "nothing", ""}, {"", "i == i", "", valuesA, "nothing", ""}, {"", "i != i", "nothing", "", "", valuesA}, {"", "i < i + 1", "i <= 999999", valuesA, "nothing", ""}, {"", "i + 1 < i", "nothing", "", "i <= 999999", valuesA}, {"", "i + 1 == i", "nothing", "", "i <= 999999", valuesA}, {"", "i - 1 != i", "i >= -999999", valuesA, "nothing", ""}, {"", "i + 1 == i + 1", "i <= 999999", valuesA, "nothing", ""}, {"", "i - i == 0", "", valuesA, "nothing", ""},
		// One is no term, or none is.
		{near, "i < j * 1", near, valuesA, "i >= 3, i <= 5, j >= 3, j <= 9", valuesA}, {near, "j * 1 <= i", "i >= 3, i <= 5, j >= 3, j <= 9", valuesA, near, valuesA}, {near, "i + 6 > j * 2", "i >= 1, i <= 5, j >= 3, j <= 9", valuesA, near, valuesA}, {near, "i * 1 == j * 1", near, valuesA, near, valuesA}, {near, "i * 1 > j * 3", "nothing", "", near, valuesA}, {near, "j * 3 > i * 1", near, valuesA, "nothing", ""}, {"i = 3", "i * i == 9", "i = 3", valuesA, "nothing", ""}, {"i = 3", "i * i != 9", "nothing", "", "i = 3", valuesA}, {near, "i + 1001 < j", "nothing", "", near, valuesA},
		{"", "a[i] > 4", "i >= 0, i - len(a) <= -1", sharp, "i >= 0, i - len(a) <= -1", sharp}, {"", "a[i] > 5", "nothing", "", "i >= 0, i - len(a) <= -1", sharp}, {"", "a[0] <= j", "j >= 2, len(a) >= 1", sharp, "j <= 4, len(a) >= 1", sharp}, {"", "j + 1 == a[0]", "j >= 1, j <= 4, len(a) >= 1", sharp, "j <= 999999, len(a) >= 1", sharp}, {"", "a[0] == a[1]", "len(a) >= 2", sharp, "len(a) >= 2", sharp}, {"", "a[0] == a[-1]", "nothing", "", "nothing", ""}, {"", "a[len(a)] != 1", "nothing", "", "nothing", ""},
		// What the second makes known: the range of the first is from ahead of it.
		{"", "i < a[i]", "i >= 0, i <= 4, i - len(a) <= -1", sharp, "i >= 2, i - len(a) <= -1", sharp}, {"", "a[i] < i", "i >= 3, i - len(a) <= -1", sharp, "i >= 0, i <= 5, i - len(a) <= -1", sharp}, {"i <= 2", "i > a[i]", "nothing", "", "i >= 0, i <= 2, i - len(a) <= -1", sharp}, {"len(a) = 1", "i == a[i]", "nothing", "", "i = 0, len(a) = 1", sharp}, {"len(a) = 3", "a[i] == i", "i = 2, len(a) = 3", sharp, "i >= 0, i <= 2, len(a) = 3", sharp},
		// Values that cannot be.
		{"i = 1000000", "i + 1 < j", "nothing", "", "nothing", ""}, {"i = 1000000", "j == i + 1", "nothing", "", "nothing", ""}, {"i = 1000000", "j < i * 2", "nothing", "", "nothing", ""},
		// The facts are against it in the end.
		{"i - j <= 0", "i > j", "nothing", "", "i - j <= 0", valuesA}, {"i - j <= -1", "i >= j", "nothing", "", "i - j <= -1", valuesA}, {"i - j <= -1", "i == j", "nothing", "", "i - j <= -1", valuesA}, {"j - i <= -1", "i == j", "nothing", "", "j - i <= -1", valuesA}, {"i - j <= 4", "i >= j + 5", "nothing", "", "i - j <= 4, j <= 999995", valuesA}, {"i - j <= 4", "i >= j + 4", "i - j = 4", valuesA, "i - j <= 3, j <= 999996", valuesA}, {"i - len(a) <= 0, len(a) - j <= 0", "i > j", "nothing", "", "i - len(a) <= 0, len(a) - j <= 0", valuesA},
		// On the way: by the range of the first, and by that of the second.
		{"i - j <= 0", "i * 1 < j * 1", "i - j <= 0", valuesA, "i - j <= 0", valuesA}, {"i - len(a) <= 0, len(a) <= 5", "a[i] - 9 > i", "nothing", "", "i >= 0, i - len(a) <= -1, len(a) <= 5", sharp}, {"i - len(a) <= 0, len(a) <= 5", "i < a[i] - 9", "nothing", "", "i >= 0, i - len(a) <= -1, len(a) <= 5", sharp},
		// That they are unlike: the one is at most the other one, just so and not.
		{"i - j <= 1", "i != j", "i - j <= 1", valuesA, "i - j = 0", valuesA}, {"i - j <= 0", "i != j", "i - j <= -1", valuesA, "i - j = 0", valuesA}, {"i - j <= -1", "i != j", "i - j <= -1", valuesA, "nothing", ""}, {"i - j <= -2", "i != j", "i - j <= -2", valuesA, "nothing", ""},
		{"j - i <= 1", "i != j", "j - i <= 1", valuesA, "i - j = 0", valuesA}, {"j - i <= 0", "i != j", "j - i <= -1", valuesA, "i - j = 0", valuesA}, {"j - i <= -1", "i != j", "j - i <= -1", valuesA, "nothing", ""}, {"i - j = 0", "i != j", "nothing", "", "i - j = 0", valuesA}, {"i - j <= 1, j - i <= 0", "i != j", "i - j = 1", valuesA, "i - j = 0", valuesA}, {"i - j <= 0, j - i <= 1", "i != j", "i - j = -1", valuesA, "i - j = 0", valuesA},
		{"i - j <= -1", "i + 1 != j", "i - j <= -2", valuesA, "i - j = -1", valuesA}, {"i - j <= -1", "j != i + 1", "i - j <= -2", valuesA, "i - j = -1", valuesA}, {"i - j <= -2", "i + 1 != j", "i - j <= -2", valuesA, "nothing", ""}, {"i - j <= 0", "i + 1 != j", "i - j <= 0, i <= 999999", valuesA, "i - j = -1", valuesA}, {"i - len(a) <= 0", "i != len(a)", "i - len(a) <= -1", valuesA, "i - len(a) = 0", valuesA},
		{"i <= 3", "i != 3", "i <= 2", valuesA, "i = 3", valuesA}, {"i >= 3", "3 != i", "i >= 4", valuesA, "i = 3", valuesA}, {"i = 3", "i != 3", "nothing", "", "i = 3", valuesA}, {"i <= 3", "i != 2", "i <= 3", valuesA, "i = 2", valuesA}, {"i <= 3", "i + 1 != 4", "i <= 2", valuesA, "i = 3", valuesA}, {"i <= 3, j = 3", "i != j", "i <= 2, j = 3", valuesA, "i = 3, j = 3", valuesA}, {"i = 3, j <= 3", "i != j", "j <= 2, i = 3", valuesA, "i = 3, j = 3", valuesA}, {"i <= 3, j >= 3", "i != j", "i <= 3, j >= 3, i - j <= -1", valuesA, "i = 3, j = 3", valuesA},
	} {
		a := told(t, one.facts, valuesA, "{0} 7..7 ? {len(b)}")
		wantTold(t, wantAssume(t, n, a, condOf(t, one.cond), true), one.yes, one.rowYes, "{0} 7..7 ? {len(b)}", one)
		wantTold(t, wantAssume(t, n, a, condOf(t, one.cond), false), one.no, one.rowNo, "{0} 7..7 ? {len(b)}", one)
	}
}

// All rows are sharpened by all that is known behind a condition.
func TestAssumptionsSharpen(t *testing.T) {
	n := twoArrays(t)
	rowA, rowB := "{0} 1..1 ? {i} 2..2 ? {len(a)}", "{0} 3..3 ? {j} 4..4 ? {i + 1} 5..5 ? {len(b)}"
	for _, one := range [][5]string{
		{"", "i >= 1", "i >= 1", "{0} 1..1 {i} 2..2 ? {len(a)}", "{0} 3..3 ? {j} 4..4 ? {i + 1} 5..5 ? {len(b)}"},
		{"", "i >= 0", "i >= 0", rowA, rowB},
		{"", "i <= 0", "i <= 0", "{0, i} 2..2 ? {len(a)}", rowB},
		{"", "i < len(a)", "i - len(a) <= -1", "{0} 1..1 ? {i} 2..2 {len(a)}", rowB},
		{"", "i >= len(a)", "i - len(a) >= 0", "{0} 1..1 ? {i, len(a)}", rowB},
		{"", "j <= i", "j - i <= 0", rowA, "{0} 3..3 ? {j} 4..4 {i + 1} 5..5 ? {len(b)}"},
		{"", "j > i", "j - i >= 1", rowA, "{0} 3..3 ? {i + 1, j} 5..5 ? {len(b)}"},
		{"j - i <= 1", "j - 1 != i", "j - i <= 0, j >= -999999", rowA, "{0} 3..3 ? {j} 4..4 {i + 1} 5..5 ? {len(b)}"},
		{"", "j == 0", "j = 0", rowA, "{0, j} 4..4 ? {i + 1} 5..5 ? {len(b)}"},
		{"j = 0", "i == 0", "i = 0, j = 0", "{0, i} 2..2 ? {len(a)}", "{0, j} 4..4 {i + 1} 5..5 ? {len(b)}"},
		// Known ahead already, but not used by the rows yet.
		{"i >= 1, j >= 1", "0 < 1", "i >= 1, j >= 1", "{0} 1..1 {i} 2..2 ? {len(a)}", "{0} 3..3 {j} 4..4 ? {i + 1} 5..5 ? {len(b)}"},
		{"i >= 1, j >= 1", "a[0] * b[0] < 90", "i >= 1, j >= 1, len(a) >= 1, len(b) >= 1", "{0} 1..1 {i} 2..2 ? {len(a)}", "{0} 3..3 {j} 4..4 ? {i + 1} 5..5 ? {len(b)}"},
	} {
		wantTold(t, wantAssume(t, n, told(t, one[0], rowA, rowB), condOf(t, one[1]), true), one[2], one[3], one[4], one)
	}
}

// edgeProgram: a program of the two arrays, with these statements.
func edgeProgram(t *testing.T, text string) impl.Node {
	t.Helper()
	return tree(t, "var i; array a[?]; var j; array b[?]; "+text)
}

func TestAbsEdge(t *testing.T) {
	rowA, rowB := "{0} 1..1 ? {i} 2..2 ? {len(a)}", "{0} 3..3 ? {i + 2, j} 4..4 ? {len(b)}"
	for _, one := range []struct{ facts, text, after, a, b string }{
		// A term of the variable itself.
		{"i >= 1, i <= 4", "i = i;", "i >= 1, i <= 4", rowA, rowB}, {"i >= 1, i <= 4", "i = i + 0;", "i >= 1, i <= 4", rowA, rowB}, {"i >= 1, i - j <= 0", "i = i - 1 + 1;", "i >= 1, i - j <= 0", rowA, rowB},
		{"i >= 1, i <= 4, i - j <= 0", "i = i + 1;", "i >= 2, i <= 5, i - j <= 1", "{0} 1..1 ? {i - 1} 2..2 ? {len(a)}", "{0} 3..3 ? {i + 1, j} 4..4 ? {len(b)}"}, {"i >= 1, i <= 4", "i = 1 + i;", "i >= 2, i <= 5", "{0} 1..1 ? {i - 1} 2..2 ? {len(a)}", "{0} 3..3 ? {i + 1, j} 4..4 ? {len(b)}"},
		{"i >= 1, i <= 4, j - i <= 7", "i = i - 1000;", "i >= -999, i <= -996, j - i <= 1007", "{0} 1..1 ? {i + 1000} 2..2 ? {len(a)}", "{0} 3..3 ? {j} 4..4 ? {len(b)}"}, {"i >= 999999", "i = i + 1;", "i = 1000000", "{0} 1..1 ? {i - 1} 2..2 ? {len(a)}", "{0} 3..3 ? {i + 1, j} 4..4 ? {len(b)}"}, {"i = 1000000", "i = i + 1;", "nothing", "", ""}, {"i = -1000000", "i = i - 1;", "nothing", "", ""}, {"", "i = i + 1;", "i >= -999999", "{0} 1..1 ? {i - 1} 2..2 ? {len(a)}", "{0} 3..3 ? {i + 1, j} 4..4 ? {len(b)}"},
		// Of another variable, of a length, a number.
		{"j >= 1, j <= 4, i = 9", "i = j;", "i - j = 0, j >= 1, j <= 4", "{0} 1..2 ? {len(a)}", "{0} 3..3 ? {i, j} 4..4 ? {len(b)}"}, {"j >= 1, j <= 4, i = 9", "i = j + 2;", "i - j = 2, j >= 1, j <= 4", "{0} 1..2 ? {len(a)}", "{0} 3..3 ? {i - 2, j} 4..4 ? {len(b)}"}, {"", "i = j + 2;", "i - j = 2", "{0} 1..2 ? {len(a)}", "{0} 3..3 ? {i - 2, j} 4..4 ? {len(b)}"}, {"j = 1000000", "i = j + 2;", "nothing", "", ""},
		{"j >= 1, i = 9", "j = i - 1;", "i = 9, j = 8", "{0} 1..1 ? {i, j + 1} 2..2 ? {len(a)}", "{0} 3..3 ? {i + 2, j + 3} 4..4 ? {len(b)}"},
		{"len(a) <= 60", "i = len(a);", "len(a) <= 60, i - len(a) = 0", "{0} 1..2 ? {i, len(a)}", "{0} 3..3 ? {j} 4..4 ? {len(b)}"}, {"len(a) <= 60", "i = len(a) - 1;", "len(a) <= 60, i - len(a) = -1", "{0} 1..2 ? {i + 1, len(a)}", "{0} 3..3 ? {j} 4..4 ? {len(b)}"}, {"", "j = len(b);", "j - len(b) = 0", rowA, "{0} 3..3 ? {i + 2} 4..4 ? {j, len(b)}"},
		{"i >= 4", "i = 0;", "i = 0", "{0, i} 1..2 ? {len(a)}", "{0, i} 3..3 ? {j} 4..4 ? {len(b)}"}, {"i >= 4", "i = 5;", "i = 5", "{0, i - 5} 1..2 ? {len(a)}", "{0, i - 5} 3..3 ? {j} 4..4 ? {len(b)}"}, {"i >= 4", "i = 2 - 5;", "i = -3", "{0, i + 3} 1..2 ? {len(a)}", "{0, i + 3} 3..3 ? {j} 4..4 ? {len(b)}"}, {"i >= 4", "i = i - i;", "i = 0", "{0, i} 1..2 ? {len(a)}", "{0, i} 3..3 ? {j} 4..4 ? {len(b)}"}, {"", "i = 1000;", "i = 1000", "{0, i - 1000} 1..2 ? {len(a)}", "{0, i - 1000} 3..3 ? {j} 4..4 ? {len(b)}"},
		// No term.
		{"i >= 4", "i = 1001;", "i = 1001", "{0} 1..2 ? {len(a)}", "{0} 3..3 ? {j} 4..4 ? {len(b)}"}, {"i = 4", "i = i + 1001;", "i = 1005", "{0} 1..2 ? {len(a)}", "{0} 3..3 ? {j} 4..4 ? {len(b)}"}, {"i >= 1, i <= 4, i - j <= 0", "i = i * 2;", "i >= 2, i <= 8, j >= 1", "{0} 1..2 ? {len(a)}", "{0} 3..3 ? {j} 4..4 ? {len(b)}"}, {"i >= 1, i <= 4", "i = -i;", "i >= -4, i <= -1", "{0} 1..2 ? {len(a)}", "{0} 3..3 ? {j} 4..4 ? {len(b)}"}, {"i - j = 1", "i = i - j;", "i = 1, j <= 999999", "{0} 1..2 ? {len(a)}", "{0} 3..3 ? {j} 4..4 ? {len(b)}"}, {"", "j = i * j;", "", rowA, "{0} 3..3 ? {i + 2} 4..4 ? {len(b)}"}, {"i >= 2000", "i = i * i;", "nothing", "", ""},
		{"", "i = a[i];", "len(a) >= 1, i = 2", "{0} 1..2 {len(a)}", "{0} 3..3 ? {j} 4..4 ? {len(b)}"}, {"i >= 1", "j = a[i];", "i >= 1, i - len(a) <= -1, j = 2", "{0} 1..1 {i} 2..2 {len(a)}", "{0} 3..3 ? {i + 2} 4..4 ? {len(b)}"}, {"", "j = a[j] + b[j];", "len(a) >= 1, len(b) >= 1, j >= 5, j <= 6", "{0} 1..1 ? {i} 2..2 ? {len(a)}", "{0} 3..3 ? {i + 2} 4..4 {len(b)}"}, {"len(a) <= 0", "j = a[i];", "nothing", "", ""},
		// What is read.
		{"i >= 1, i - j <= 0", "read i;", "j >= 1", "{0} 1..2 ? {len(a)}", "{0} 3..3 ? {j} 4..4 ? {len(b)}"}, {"i >= 1, i - j <= 0", "read j;", "i >= 1", rowA, "{0} 3..3 ? {i + 2} 4..4 ? {len(b)}"}, {"", "read i;", "", "{0} 1..2 ? {len(a)}", "{0} 3..3 ? {j} 4..4 ? {len(b)}"}, {"i >= 5", "read j;", "i >= 5", rowA, "{0} 3..3 ? {i + 2} 4..4 ? {len(b)}"},
		// A condition, as it holds.
		{"", "check i >= 1;", "i >= 1", "{0} 1..1 {i} 2..2 ? {len(a)}", "{0} 3..3 {i + 2, j} 4..4 ? {len(b)}"}, {"i <= 0", "check i >= 1;", "nothing", "", ""}, {"i <= 0", "check 0 < 0;", "nothing", "", ""}, {"", "check i + 2 != j;", "i <= 999998", rowA, rowB},
		{"", "if i >= 1 { }", "i >= 1", "{0} 1..1 {i} 2..2 ? {len(a)}", "{0} 3..3 {i + 2, j} 4..4 ? {len(b)}"}, {"i <= 0", "if i >= 1 { } else { skip; }", "nothing", "", ""},
		// Nothing is done.
		{"i >= 1, i - j <= 0", "skip;", "i >= 1, i - j <= 0", rowA, rowB}, {"i >= 1, i - j <= 0", "stop;", "i >= 1, i - j <= 0", rowA, rowB}, {"i >= 1", "while i < 5 { }", "i >= 1", rowA, rowB}, {"i = 9", "while 0 < 0 { }", "i = 9", rowA, rowB},
	} {
		wantTold(t, wantEdge(t, edgeProgram(t, one.text), told(t, one.facts, rowA, rowB), 0), one.after, one.a, one.b, one)
	}
}

func TestPutEdges(t *testing.T) {
	rowA, rowB := "{0} 1..1 ? {i} 2..2 or unwritten ? {len(a)}", "{0} 3..3 ? {5} 4..4 ? {len(b)}"
	empty := "{0} none or unwritten ? {len(b)}"
	for _, one := range []struct{ facts, b, text, after, afterA, afterB string }{
		// At a term: surely in its place, perhaps, never.
		{"i >= 1, i - len(a) <= -1", rowB, "a[i] = 7;", "i >= 1, i - len(a) <= -1", "{0} 1..1 {i} 7..7 {i + 1} 2..2 or unwritten ? {len(a)}", rowB}, {"i >= 1", rowB, "a[i] = 7;", "i >= 1, i - len(a) <= -1", "{0} 1..1 {i} 7..7 {i + 1} 2..2 or unwritten ? {len(a)}", rowB}, {"", rowB, "a[i] = 7;", "i >= 0, i - len(a) <= -1", "{0} 1..1 ? {i} 7..7 {i + 1} 2..2 or unwritten ? {len(a)}", rowB}, {"i <= 0", rowB, "a[i] = 7;", "i = 0, len(a) >= 1", "{0, i} 7..7 {i + 1} 2..2 or unwritten ? {len(a)}", rowB}, {"i <= -1", rowB, "a[i] = 7;", "nothing", "", ""}, {"i - len(a) >= 0", rowB, "a[i] = 7;", "nothing", "", ""},
		{"i - len(a) = -1", rowB, "a[i] = 7;", "i - len(a) = -1, i >= 0", "{0} 1..1 ? {i} 7..7 {i + 1, len(a)}", rowB}, {"", rowB, "a[len(a)] = 7;", "nothing", "", ""}, {"", rowB, "a[len(a) - 1] = 7;", "len(a) >= 1", "{0} 1..2 or unwritten ? {len(a) - 1} 7..7 {len(a)}", rowB}, {"", rowB, "a[-1] = 7;", "nothing", "", ""}, {"len(a) <= 2", rowB, "a[2] = 7;", "nothing", "", ""}, {"len(a) <= 3", rowB, "a[2] = 7;", "len(a) = 3", "{0} 1..2 or unwritten {2} 7..7 {3, len(a)}", rowB},
		{"len(b) <= 60", empty, "b[0] = 6;", "len(b) >= 1, len(b) <= 60", rowA, "{0} 6..6 {1} none or unwritten ? {len(b)}"}, {"", empty, "b[j + 1] = j;", "j >= -1, j - len(b) <= -2", rowA, "{0} none or unwritten ? {j + 1} -1000000..1000000 {j + 2} none or unwritten ? {len(b)}"}, {"j >= 4, j <= 6", empty, "b[j] = j;", "j >= 4, j <= 6, j - len(b) <= -1", rowA, "{0} none or unwritten {j} 4..6 {j + 1} none or unwritten ? {len(b)}"},
		// 1000 is a term, but what is behind it is none.
		{"", empty, "b[1000] = 6;", "len(b) >= 1001", rowA, "{0} 6..6 or unwritten {len(b)}"}, {"", empty, "b[999] = 6;", "len(b) >= 1000", rowA, "{0} none or unwritten {999} 6..6 {1000} none or unwritten ? {len(b)}"},
		// A row without a place for it stays: it says that there is no cell.
		{"", "{0, len(b)}", "b[0] = 6;", "len(b) >= 1", rowA, "{0, len(b)}"},
		// At no term: in a place for certain, perhaps, never.
		{"j >= 0, j <= 4, len(b) >= 9", rowB, "b[j * 1] = 7;", "j >= 0, j <= 4, len(b) >= 9", rowA, "{0} 3..7 {5} 4..4 {len(b)}"}, {"j >= 0, j <= 5, len(b) >= 9", rowB, "b[j * 1] = 7;", "j >= 0, j <= 5, len(b) >= 9", rowA, "{0} 3..7 {5} 4..7 {len(b)}"}, {"j = 5, len(b) >= 9", rowB, "b[j * 1] = 7;", "j = 5, len(b) >= 9", rowA, "{0} 3..3 {5} 4..7 {len(b)}"}, {"j = 5", rowB, "b[j * 1] = 7;", "j = 5, len(b) >= 6", rowA, "{0} 3..3 {5} 4..7 {len(b)}"}, {"j <= 4", rowB, "b[j * 1] = 7;", "j <= 4, len(b) >= 1", rowA, "{0} 3..7 {5} 4..4 ? {len(b)}"},
		{"", rowB, "b[j * 1] = 7;", "len(b) >= 1", rowA, "{0} 3..7 {5} 4..7 ? {len(b)}"}, {"len(b) <= 5", rowB, "b[j * 1] = 7;", "len(b) >= 1, len(b) <= 5", rowA, "{0} 3..7 {5, len(b)}"}, {"j <= -1", rowB, "b[j * 1] = 7;", "nothing", "", ""}, {"j >= 5, len(b) <= 5", rowB, "b[j * 1] = 7;", "nothing", "", ""}, {"j >= 5, len(b) <= 6", rowB, "b[j * 1] = 7;", "j >= 5, len(b) = 6", rowA, "{0} 3..3 {5} 4..7 {len(b)}"}, {"j >= 0, j <= 3", empty, "b[j * 2] = j;", "j >= 0, j <= 3, len(b) >= 1", rowA, "{0} 0..3 or unwritten {len(b)}"},
		{"i >= 1", rowB, "b[a[0]] = 9;", "i >= 1, len(a) >= 1, len(b) >= 2", "{0} 1..1 {i} 2..2 or unwritten ? {len(a)}", "{0} 3..9 {5} 4..4 ? {len(b)}"},
		// What is worked out ahead of the write: the index, then the value.
		{"", "{0} 3..3 ? {2} 4..4 ? {len(b)}", "b[j] = a[i];", "i >= 0, i - len(a) <= -1, j >= 0, j - len(b) <= -1", "{0} 1..1 ? {i} 2..2 or unwritten {len(a)}", "{0} 3..4 ? {j} 2..2 {j + 1} 3..4 ? {len(b)}"}, {"len(b) = 3, i >= 1", empty, "b[i] = b[i];", "nothing", "", ""}, {"", rowB, "b[j] = b[j] + 1;", "j >= 0, j - len(b) <= -1", rowA, "{0} 3..4 ? {j} 4..5 {j + 1} 3..4 ? {len(b)}"},
		// The range of the index is from ahead of the value, its term is not asked.
		{"len(a) <= 3", rowB, "b[j * 1] = a[j];", "j >= 0, j - len(a) <= -1, len(a) <= 3, len(b) >= 1", "{0} 1..1 ? {i} 2..2 or unwritten ? {len(a)}", "{0} 1..3 {5} 1..4 ? {len(b)}"}, {"len(a) <= 3, j <= 9", rowB, "b[j] = a[j];", "j >= 0, j - len(a) <= -1, len(a) <= 3, j - len(b) <= -1", "{0} 1..1 ? {i} 2..2 or unwritten ? {len(a)}", "{0} 3..3 ? {j} 1..2 {j + 1} 3..3 {5} 4..4 ? {len(b)}"},
		// A value that cannot be, an index that cannot.
		{"", rowB, "b[0] = 1000000 + 1;", "nothing", "", ""}, {"", rowB, "b[0] = a[len(a)];", "nothing", "", ""}, {"j = 1000000", rowB, "b[j + 1] = 7;", "nothing", "", ""}, {"", rowB, "b[a[-1]] = 7;", "nothing", "", ""}, {"j >= 2000", rowB, "b[0] = j * j;", "nothing", "", ""},
	} {
		row := one.afterA
		wantTold(t, wantEdge(t, edgeProgram(t, one.text), told(t, one.facts, rowA, one.b), 0), one.after, row, one.afterB, one)
	}
}

// The edges of loops and branches, by their numbers.
func TestGuardEdges(t *testing.T) {
	for _, one := range []struct {
		text, facts string
		edge        int
		after       string
	}{
		{"while i < 5 { i = i + 1; }", "", 0, ""}, {"while i < 5 { i = i + 1; }", "", 1, "i <= 4"}, {"while i < 5 { i = i + 1; }", "i <= 4", 2, "i <= 5, i >= -999999"}, {"while i < 5 { i = i + 1; }", "i <= 5", 3, "i <= 5"}, {"while i < 5 { i = i + 1; }", "i <= 5", 4, "i = 5"}, {"while i < 5 { i = i + 1; }", "i <= 4", 4, "nothing"}, {"while i < 5 { i = i + 1; }", "i = 9", 1, "nothing"}, {"while i < 5 { i = i + 1; }", "i = 9", 5, "i = 9"},
		{"if i == j { } else { }", "i - j <= 0", 0, "i - j = 0"}, {"if i == j { } else { }", "i - j <= 0", 1, "i - j <= -1"}, {"if i != j { stop; }", "i - j <= 0", 0, "i - j <= -1"}, {"if i != j { stop; }", "i - j <= 0", 1, "i - j <= 0"}, {"if i != j { stop; }", "i - j <= 0", 2, "i - j = 0"},
		{"for i from 2 to j { skip; }", "i = 9", 0, "i = 2"}, {"for i from 2 to j { skip; }", "i = 9", 1, "i = 9"}, {"for i from 2 to j { skip; }", "i >= 2", 2, "i >= 2, i - j <= -1"}, {"for i from 2 to j { skip; }", "i = 2, j <= 8", 4, "i = 3, j <= 8"}, {"for i from 2 to j { skip; }", "i >= 2", 6, "i >= 2, j - i <= 0"},
	} {
		got := wantEdge(t, edgeProgram(t, one.text), told(t, one.facts, "{0} 1..1 ? {len(a)}", "{0} 2..2 ? {len(b)}"), one.edge)
		if one.after == "nothing" {
			wantAbs(t, got, nothing(), one)
			continue
		}
		wantFacts(t, got.Facts, closedByRounds(known(t, one.after)), one)
	}
}

// A loop over an array, edge by edge, as it is told.
func TestEdgesOneBehindTheOther(t *testing.T) {
	n := tree(t, "var i; array a[3]; for i from 0 to len(a) { a[i] = i; } check a[1] == 1;")
	a := impl.AbsStart(n)
	for _, one := range []struct {
		edge int
		want string
	}{
		{0, "{0, i} none or unwritten {3, i + 3, len(a)}"}, {1, "{0, i} none or unwritten {3, i + 3, len(a)}"}, {2, "{0, i} none or unwritten {3, i + 3, len(a)}"}, {3, "{0, i} 0..0 {i + 1} none or unwritten {3, i + 3, len(a)}"},
		{4, "{0, i - 1} 0..0 {i} none or unwritten {3, i + 2, len(a)}"}, {5, "{0, i - 1} 0..0 {i} none or unwritten {3, i + 2, len(a)}"}, {2, "{0, i - 1} 0..0 {i} none or unwritten {3, i + 2, len(a)}"}, {3, "{0, i - 1} 0..0 {i} 1..1 {i + 1} none or unwritten {3, i + 2, len(a)}"},
		{4, "{0, i - 2} 0..0 {i - 1} 1..1 {i} none or unwritten {3, i + 1, len(a)}"}, {5, "{0, i - 2} 0..0 {i - 1} 1..1 {i} none or unwritten {3, i + 1, len(a)}"}, {2, "{0, i - 2} 0..0 {i - 1} 1..1 {i} none or unwritten {3, i + 1, len(a)}"}, {3, "{0, i - 2} 0..0 {i - 1} 1..1 {i} 2..2 {3, i + 1, len(a)}"},
		{4, "{0, i - 3} 0..0 {i - 2} 1..1 {i - 1} 2..2 {3, i, len(a)}"}, {5, "{0, i - 3} 0..0 {i - 2} 1..1 {i - 1} 2..2 {3, i, len(a)}"}, {6, "{0, i - 3} 0..0 {i - 2} 1..1 {i - 1} 2..2 {3, i, len(a)}"}, {7, "{0, i - 3} 0..0 {i - 2} 1..1 {i - 1} 2..2 {3, i, len(a)}"},
	} {
		if one.edge == 2 {
			wantAbs(t, wantEdge(t, n, a, 6), nothing(), one)
		}
		a = wantEdge(t, n, a, one.edge)
		if text := impl.AbsText(n, a); !strings.HasSuffix(text, "\na: "+one.want+"\n") {
			t.Fatalf("%v: %q", one, text)
		}
	}
	wantAbs(t, wantEdge(t, n, a, 2), nothing())
}

// stepExprs and stepConds: texts of all kinds, of the two arrays.
func stepExprs() []string {
	return []string{
		"0", "3", "i", "j", "len(a)", "len(b)", "-i", "-3", "i + 1", "i - 1", "len(a) - 1", "i + j", "i - j", "j - i", "i * j", "i * 1", "i + i", "i - i", "a[0]", "a[1]", "a[i]", "a[j]", "a[i + 1]", "a[i - 1]", "a[len(a) - 1]", "a[len(a)]", "b[i]", "b[len(a)]", "a[i * 1]", "a[j * 2 - i]", "a[a[i]]", "a[b[0]]", "b[a[0] - 1]",
		"a[i] + i", "i - a[i]", "a[i] + a[j]", "a[0] * b[0]", "-a[i]", "a[i] - a[i]", "i + 1 - 1", "i + 1000 - 1000", "i + 1001", "1000000 + i", "i * 1000", "a[i - j]", "b[-i]", "2 * 3 - 5", "a[2 * 3 - 5]", "j - len(b)", "i - 3 - (j - 2)",
	}
}

func stepConds() []string {
	var list []string
	exprs := []string{"i", "j", "i + 1", "3", "0", "len(a)", "len(b) - 1", "a[i]", "a[0]", "i * j", "b[j]", "i - j", "-j"}
	for at, sign := range strings.Fields("< <= > >= == !=") {
		for k, first := range exprs {
			list = append(list, first+" "+sign+" "+exprs[(k*5+at*3)%len(exprs)], first+" "+sign+" "+exprs[(k+at)%len(exprs)])
		}
	}
	return list
}

// stepPrograms: programs that have together an edge for each of the expressions,
// and for some conditions; they are short, since all that is asked checks them.
func stepPrograms(t *testing.T) []impl.Node {
	t.Helper()
	texts := []string{"skip; read i; read j;", "check i < j; check a[i] != j; if i != len(a) { stop; }", "while i + 2 <= j { skip; } for j from i to len(b) { b[j] = a[j]; }"}
	for at, e := range stepExprs() {
		one := []string{"i = " + e, "j = " + e, "a[" + e + "] = j - i", "b[" + e + "] = i * 1", "a[i] = " + e, "b[j + i] = " + e}[at%6] + "; "
		if at%8 == 0 {
			texts = append(texts, "")
		}
		texts[len(texts)-1] += one
	}
	var list []impl.Node
	for _, text := range texts {
		list = append(list, edgeProgram(t, text))
	}
	return list
}

// manyTold: Abs of the two arrays of all kinds.
func manyTold(t *testing.T) []impl.Abs {
	list := append(someToldStates(t), becomeNothing(t)...)
	list = append(list, nothing(), impl.Abs{Segs: []impl.Seg{}}, topOf(2, 2))
	for _, facts := range []string{"", "i >= 0, i - len(a) <= -1", "i = 0, j = 1, len(a) = 3, len(b) = 2", "i - j = 0, j >= 1, len(a) - len(b) = 0", "i >= 1, j >= 1, i - j <= 0, len(a) <= 60, len(a) >= 0", "len(a) = 0", "i <= -1", "i - j >= 1000000", "i = 1000000, j = -1000000"} {
		for _, rows := range [][2]string{
			{valuesA, valuesB}, {plainA, plainB}, {"{0, i} none or unwritten ? {j} 1..3 ? {len(a)}", "{0} 0..2 ? {i + 1, len(a)} 5..7 or unwritten ? {len(b)}"}, {"{0} 1..1 {1} 2..2 ? {j} none ? {i} 0..5 ? {len(a)}", "{0, j} none ? {i} 2..2 ? {len(b)}"}, {"{0, len(a)}", "{0, i, len(b)}"}, {"{0} 1..1 {i} 2..2 {i + 1} 3..3 ? {len(a) - 1} 4..4 {len(a)}", "{0} 1000000..1000000 ? {j} -1000000..-1000000 ? {len(b)}"},
		} {
			list = append(list, told(t, facts, rows[0], rows[1]))
		}
	}
	return list
}

// Each expression, each condition and each edge with each Abs, as told otherwise.
func TestStepsByWords(t *testing.T) {
	n := edgeProgram(t, "skip;")
	counts := map[string]int{}
	count := func(way string, got impl.Abs) {
		if counts[way]++; isNothing(got) {
			counts[way+" nothing"]++
		}
	}
	for _, a := range manyTold(t) {
		for _, text := range stepExprs() {
			got, _ := wantValue(t, n, a, exprOf(t, text))
			count("values", got)
		}
		for _, text := range stepConds() {
			for _, yes := range []bool{true, false} {
				count("assumed", wantAssume(t, n, a, condOf(t, text), yes))
			}
		}
		for _, one := range stepPrograms(t) {
			for edge := range impl.GraphOf(one).Edges {
				count("edges", wantEdge(t, one, a, edge))
			}
		}
	}
	for _, way := range []string{"values", "assumed", "edges"} {
		if counts[way] < 3000 || counts[way+" nothing"] < counts[way]/10 || counts[way+" nothing"] > counts[way]*2/3 {
			t.Fatal(counts)
		}
	}
}

// unnormed: Abs of the two arrays that are normed to others, or to nothing.
func unnormed(t *testing.T) []impl.Abs {
	list := append(becomeNothing(t), someToldStates(t)...)
	for _, facts := range []string{"i - j <= 0, j <= 5, len(a) - i >= 1", "i >= 1, j - i >= 1"} {
		list = append(list, told(t, facts, "{0} none ? {i} 1..1 {j} none ? {len(a)}", "{0, j} none ? {i} 2..2 ? {len(b)}"), told(t, facts, "{0} none ? {len(a)}", "{0} 1..1 ? {i} none ? {j} none ? {len(b)}"))
	}
	return list
}

// What is not normed is normed ahead: an Abs and the normed one are told alike;
// one that becomes nothing tells nothing, whatever is done.
func TestStepsOfNormedStates(t *testing.T) {
	n := edgeProgram(t, "skip;")
	for _, a := range unnormed(t) {
		norm := impl.AbsNorm(n, a)
		alike := func(got, want impl.Abs, about ...any) {
			t.Helper()
			if wantAbs(t, got, want, about...); isNothing(norm) && !isNothing(got) {
				t.Fatalf("%v: %v: %v", about, a, got)
			}
		}
		for _, one := range stepPrograms(t) {
			for number, edge := range impl.GraphOf(one).Edges {
				got := impl.AbsEdge(one, a, number)
				if alike(got, impl.AbsEdge(one, norm, number), number); edge.Kind == impl.EgSkip || edge.Kind == impl.EgStop {
					wantAbs(t, got, norm, number, a)
				}
			}
		}
		for _, text := range stepExprs() {
			got, r := impl.AbsValue(n, a, exprOf(t, text))
			want, s := impl.AbsValue(n, norm, exprOf(t, text))
			alike(got, want, text)
			wantRange(t, r, s, text, a)
		}
		for _, text := range stepConds() {
			for _, yes := range []bool{true, false} {
				alike(impl.AbsAssume(n, a, condOf(t, text), yes), impl.AbsAssume(n, norm, condOf(t, text), yes), text)
			}
		}
	}
	// That no cell lies between two bounds is known ahead of what is assumed.
	two := told(t, "", "{0} none ? {i} 1..1 {len(a)}", valuesB)
	wantTold(t, impl.AbsAssume(n, two, condOf(t, "j >= 1"), true), "j >= 1", "{0, i} 1..1 {len(a)}", valuesB)
	wantTold(t, impl.AbsEdge(n, told(t, "i - j <= 0, j <= 5", "{0} none ? {i} 1..1 {len(a)}", valuesB), 0), "i - j <= 0, j <= 5", "{0, i} 1..1 {len(a)}", valuesB)
	// What is read stands in the bound ahead of which there must be a cell.
	read := edgeProgram(t, "read i;")
	wantAbs(t, impl.AbsEdge(read, told(t, "", "{0} none {i} 1..1 ? {len(a)}", valuesB), 0), nothing())
}

func TestEdgeNumbers(t *testing.T) {
	for _, text := range []string{"skip;", "var i; i = 1;", "var i; array a[?]; while i < 3 { i = i + 1; } stop;", "array a[2]; a[0] = 1; if 0 < 1 { a[1] = 2; }"} {
		n := tree(t, text)
		start, edges := impl.AbsStart(n), len(impl.GraphOf(n).Edges)
		for edge := range edges {
			wantEdge(t, n, start, edge)
		}
		if last := impl.AbsEdge(n, start, edges-1); isNothing(last) {
			t.Fatal(text)
		}
		for _, edge := range append(manyInts(), -1, -2, edges, edges+1, 3000, 6000) {
			if (edge < 0 || edge >= edges) && !isNothing(impl.AbsEdge(n, start, edge)) {
				t.Fatalf("%s: edge %d", text, edge)
			}
		}
	}
	// Of a program that declares nothing.
	n := tree(t, "check 1 < 2; check 2 < 1;")
	wantAbs(t, wantEdge(t, n, impl.AbsStart(n), 0), impl.AbsStart(n))
	wantAbs(t, wantEdge(t, n, impl.AbsStart(n), 1), nothing())
	if _, r := wantValue(t, n, impl.AbsStart(n), exprOf(t, "2 * 3")); r != span(6, 6) {
		t.Fatal(r)
	}
}

// wantNoStep: nothing is told of this, whatever it is.
func wantNoStep(t *testing.T, n impl.Node, a impl.Abs, e, cond impl.Node, edges ...int) {
	t.Helper()
	if got, r := impl.AbsValue(n, a, e); !isNothing(got) || r != noRange() {
		t.Fatalf("%s in %v: %.300v: %v, %v", shown(n), a, e, got, r)
	}
	for _, yes := range []bool{true, false} {
		if got := impl.AbsAssume(n, a, cond, yes); !isNothing(got) {
			t.Fatalf("%s in %v: %.300v: %v", shown(n), a, cond, got)
		}
	}
	for _, edge := range edges {
		if got := impl.AbsEdge(n, a, edge); !isNothing(got) {
			t.Fatalf("%s in %v: edge %d: %v", shown(n), a, edge, got)
		}
	}
}

func TestStepsOfWrongStates(t *testing.T) {
	n := edgeProgram(t, "skip; i = 1; read j; a[i] = a[j]; b[i * 1] = j; check i < j; if 0 < 1 { stop; }")
	edges := []int{0, 1, 2, 3, 4, 5, 6, 7, 8}
	for _, wrong := range append(wrongAbs(t), nothing(), impl.Abs{Segs: []impl.Seg{}}) {
		for _, text := range []string{"0", "i", "len(a)", "a[i]", "b[j * 1]", "i - j"} {
			wantNoStep(t, n, wrong, exprOf(t, text), condOf(t, text+" <= "+text), edges...)
		}
	}
	for vars := range 4 {
		for arrays := range 4 {
			if vars != 2 || arrays != 2 {
				wantNoStep(t, n, topOf(vars, arrays), exprOf(t, "7"), condOf(t, "7 < 8"), edges...)
			}
		}
	}
}

func TestStepsOfWrongPrograms(t *testing.T) {
	list := append(someToldStates(t)[:3], nothing())
	for vars := range 3 {
		for arrays := range 3 {
			list = append(list, topOf(vars, arrays))
		}
	}
	for _, n := range wrongPrograms(t) {
		for _, a := range list {
			for _, text := range []string{"0", "i", "a[0]", "len(a)"} {
				wantNoStep(t, n, a, exprOf(t, text), condOf(t, text+" == "+text), -1, 0, 1)
			}
		}
	}
}

func TestStepsOfWrongExpressions(t *testing.T) {
	n, a := twoArrays(t), told(t, "i >= 0, i - len(a) <= -1", valuesA, valuesB)
	fine, same := exprOf(t, "i"), condOf(t, "i == i")
	for _, text := range []string{"7", "i", "len(a)", "a[i]", "-i", "i + 1", "i - j", "i * j"} {
		e := exprOf(t, text)
		if got, _ := wantValue(t, n, a, e); isNothing(got) {
			t.Fatal(text)
		}
		for _, bad := range spoils(e) {
			for _, around := range []impl.Node{bad, node(impl.ExNeg, bad), node(impl.ExAdd, bad, fine), node(impl.ExMul, fine, bad), named(impl.ExCell, "a", bad)} {
				wantNoStep(t, n, a, around, node(impl.CdMost, around, fine))
				wantNoStep(t, n, a, around, node(impl.CdOther, fine, around))
			}
		}
	}
	for kind := impl.CdLess; kind <= impl.CdOther; kind++ {
		cond := node(kind, exprOf(t, "j"), exprOf(t, "i + 1"))
		for _, yes := range []bool{true, false} {
			if isNothing(wantAssume(t, n, a, cond, yes)) {
				t.Fatal(kind, yes)
			}
		}
		for _, bad := range spoils(cond) {
			wantNoStep(t, n, a, bad, bad)
		}
		// A condition is no expression, and an expression is no condition.
		wantNoStep(t, n, a, cond, fine)
		wantNoStep(t, n, a, node(impl.ExNeg, cond), node(kind, cond, fine))
	}
	wantNoStep(t, n, a, same, number(1))
	for _, wrong := range []impl.Node{{}, n, n.Kids[0], n.Kids[4], n.Kids[4].Kids[0], node(impl.StSkip), node(impl.StCheck, same), {Kind: math.MinInt}, {Kind: math.MaxInt}, nested(fine, 24), nested(fine, 1000), wideExpr(501)} {
		wantNoStep(t, n, a, wrong, wrong)
		wantNoStep(t, n, a, node(impl.ExSub, fine, wrong), node(impl.CdSame, fine, wrong))
	}
	// A list that holds itself.
	loop := []impl.Node{{Kind: impl.ExNeg}}
	loop[0].Kids = loop
	wantNoStep(t, n, a, loop[0], node(impl.CdSame, fine, loop[0]))
	wantNoStep(t, loop[0], a, fine, same, 0)
	// The limits that are met.
	if got, r := wantValue(t, n, a, nested(number(1), 23)); isNothing(got) || r != span(-1, -1) {
		t.Fatal(got, r)
	}
	wide := tree(t, "var x; skip;")
	if got, r := wantValue(t, wide, impl.AbsStart(wide), wideExpr(500)); isNothing(got) || r != span(0, 0) {
		t.Fatal(got, r)
	}
	if got := wantAssume(t, wide, impl.AbsStart(wide), node(impl.CdSame, wideExpr(249), wideExpr(250)), true); isNothing(got) {
		t.Fatal(got)
	}
	wantNoStep(t, wide, impl.AbsStart(wide), wideExpr(501), node(impl.CdSame, wideExpr(250), wideExpr(250)))
	if got := wantAssume(t, n, a, node(impl.CdSame, nested(number(1), 22), nested(number(1), 20)), true); isNothing(got) {
		t.Fatal(got)
	}
	wantNoStep(t, n, a, nested(number(1), 24), node(impl.CdSame, nested(number(1), 23), number(1)))
}

// surrounded: an expression at each place where one can stand.
func surrounded(e impl.Node) []impl.Node {
	one := number(1)
	list := []impl.Node{e}
	for range 2 {
		for _, inner := range slices.Clone(list) {
			list = append(list, node(impl.ExNeg, inner), named(impl.ExCell, "a", inner), named(impl.ExCell, "b", node(impl.ExSub, inner, inner)))
			for kind := impl.ExAdd; kind <= impl.ExMul; kind++ {
				list = append(list, node(kind, inner, one), node(kind, one, inner))
			}
		}
	}
	return list
}

// A name that is not the program's own, or one of the other kind, at each place.
func TestStepsWithWrongNames(t *testing.T) {
	n, a := twoArrays(t), told(t, "i = 0, j = 1, len(a) >= 9, len(b) >= 9", "{0} 1..1 {len(a)}", "{0} 1..1 {len(b)}")
	one := number(1)
	for _, right := range []string{"i", "j", "len(a)", "a[1]", "b[i]"} {
		told := 0
		for _, e := range surrounded(exprOf(t, right)) {
			if got, _ := wantValue(t, n, a, e); !isNothing(got) {
				told++
			}
		}
		if told < 60 {
			t.Fatal(right, told)
		}
	}
	for _, wrong := range []impl.Node{
		variable("k"), variable("a"), variable("b"), variable("x1234567"), variable("ii"), named(impl.ExLen, "c"), named(impl.ExLen, "i"), named(impl.ExLen, "j"), named(impl.ExLen, "aa"), named(impl.ExCell, "c", one), named(impl.ExCell, "i", one), named(impl.ExCell, "j", one), named(impl.ExCell, "bb", variable("i")), named(impl.ExCell, "a", variable("k")), named(impl.ExCell, "a", named(impl.ExCell, "i", one)),
	} {
		for _, e := range surrounded(wrong) {
			for kind := impl.CdLess; kind <= impl.CdOther; kind++ {
				wantNoStep(t, n, a, e, node(kind, e, variable("i")))
				wantNoStep(t, n, a, e, node(kind, named(impl.ExLen, "a"), e))
			}
		}
	}
	// The same names, as another program declares them.
	other := tree(t, "array i[?]; var a; array j[?]; var b; skip;")
	for _, text := range []string{"i", "len(a)", "a[0]"} {
		wantNoStep(t, other, a, exprOf(t, text), condOf(t, "1 < "+text))
	}
	if got, r := wantValue(t, other, a, exprOf(t, "a - b + i[len(j) - 1]")); isNothing(got) || r != span(0, 0) {
		t.Fatal(got, r)
	}
}

// edgeTaken: the number of the edge over which a step led.
func edgeTaken(t *testing.T, g impl.Graph, from, to int) int {
	t.Helper()
	at := slices.IndexFunc(g.Edges, func(e impl.Edge) bool { return e.From == from && e.To == to })
	if at < 0 {
		t.Fatalf("no edge from %d to %d", from, to)
	}
	return at
}

// asked counts what promise 14 was asked of.
type asked struct{ steps, values, conds, closer int }

// keepsStep: an Abs that has a state has, behind the edge of a step that does
// not trap, the state behind it.
func (k *asked) keepsStep(t *testing.T, n impl.Node, g impl.Graph, a impl.Abs, c impl.Conf, inputs []int) {
	t.Helper()
	next := impl.Step(n, c, inputs)
	if next.Trap != 0 || next.Steps == c.Steps {
		return
	}
	edge := edgeTaken(t, g, c.Point, next.Point)
	if got := wantEdge(t, n, a, edge); !impl.AbsHas(n, got, next) {
		t.Fatalf("%s: %v has %v, but %v has not %v over edge %d", shown(n), a, c, got, next, edge)
	}
	k.steps++
}

// keepsValue: the value of an expression is in the range that is told, and what
// is known behind it has the state.
func (k *asked) keepsValue(t *testing.T, n impl.Node, a impl.Abs, c impl.Conf, e impl.Node) {
	t.Helper()
	num, trap := impl.ValueOf(n, c, e)
	if trap != 0 {
		return
	}
	got, r := wantValue(t, n, a, e)
	if !impl.RangeHas(r, num) || !impl.AbsHas(n, got, c) {
		t.Fatalf("%s: %s is %d in %v, but %v in %v: %v", shown(n), impl.ExprText(e), num, c, r, a, got)
	}
	if k.values++; r.Hi-r.Lo < bound {
		k.closer++
	}
}

// keepsCond: what is assumed as it comes out has the state.
func (k *asked) keepsCond(t *testing.T, n impl.Node, a impl.Abs, c impl.Conf, cond impl.Node) {
	t.Helper()
	x, trap := impl.ValueOf(n, c, cond.Kids[0])
	y, other := impl.ValueOf(n, c, cond.Kids[1])
	if trap != 0 || other != 0 {
		return
	}
	yes := holds(cond.Kind, x, y)
	if got := wantAssume(t, n, a, cond, yes); !impl.AbsHas(n, got, c) {
		t.Fatalf("%s: %s is %v in %v, but %v becomes %v", shown(n), impl.ExprText(cond), yes, c, a, got)
	}
	k.conds++
}

// condsOf: all conditions of a tree.
func condsOf(n impl.Node) []impl.Node {
	var list []impl.Node
	if n.Kind >= impl.CdLess && n.Kind <= impl.CdOther {
		list = append(list, n)
	}
	for _, kid := range n.Kids {
		list = append(list, condsOf(kid)...)
	}
	return list
}

// Promise 14 over programs of all kinds: states of their runs, Abs around one of
// these or around several.
func TestStepsKeepStates(t *testing.T) {
	next := draws(1501)
	var k asked
	for round := range 90 {
		n := runProgram(t, next)
		if round%3 == 2 {
			n = rightProgram(next)
		}
		if impl.Check(n).Code != impl.OK {
			continue
		}
		g, inputs := impl.GraphOf(n), []int{3, -1, 2, 0, 5}
		exprs, conds := append(partsOf(n), number(7)), condsOf(n)
		states := statesOfRuns(next, n, 6)
		for at, c := range states {
			c.Trap, c.Edge, c.Access = 0, 0, 0
			states[at] = c
		}
		for range 4 {
			a := absDrawn(next, n, states, nothing())
			for _, c := range states {
				if !impl.AbsHas(n, a, c) {
					continue
				}
				k.keepsStep(t, n, g, a, c, inputs)
				// From each point, not from its own alone.
				for range 3 {
					c.Point = next(g.Points)
					k.keepsStep(t, n, g, a, c, inputs)
				}
				for range 3 {
					e := exprs[next(len(exprs))]
					k.keepsValue(t, n, a, c, e)
					k.keepsCond(t, n, a, c, node(impl.CdLess+next(6), e, exprs[next(len(exprs))]))
				}
				if len(conds) > 0 {
					k.keepsCond(t, n, a, c, conds[next(len(conds))])
				}
			}
		}
	}
	if k.steps < 1300 || k.values < 1300 || k.conds < 1300 || k.closer < 1000 {
		t.Fatalf("%+v", k)
	}
}

// Promise 14 along runs: what is told from edge to edge, from the beginning on,
// has the state of the run at each point, also joined with what another run or
// an Abs around the state tells.
func TestRunsAreTold(t *testing.T) {
	next := draws(1502)
	var k asked
	ended := 0
	for range 60 {
		n := runProgram(t, next)
		if impl.Check(n).Code != impl.OK {
			continue
		}
		g := impl.GraphOf(n)
		a := impl.AbsStart(n)
		var inputs []int
		for range next(4) {
			inputs = append(inputs, next(7)-2)
		}
		c, _ := impl.Begin(n, []int{next(5)})
		for range 40 {
			k.keepsStep(t, n, g, a, c, inputs)
			after := impl.Step(n, c, inputs)
			if after.Trap != 0 || after.Steps == c.Steps {
				ended++
				break
			}
			a, c = impl.AbsEdge(n, a, edgeTaken(t, g, c.Point, after.Point)), after
			switch next(8) {
			case 0:
				a = impl.AbsJoin(n, a, absAround(next, n, nearConf(next, n, c)))
			case 1:
				a = impl.AbsWiden(n, a, absAround(next, n, c), []int{0, 1, 3})
			}
			e := exprOf(t, runExpr(next, 2))
			k.keepsValue(t, n, a, c, e)
			k.keepsCond(t, n, a, c, condOf(t, runCond(next)))
		}
	}
	if k.steps < 900 || k.values < 600 || k.conds < 500 || ended < 10 {
		t.Fatalf("%+v, %d ended", k, ended)
	}
}

// Promise 14 of small Abs in all small states.
func TestSmallSteps(t *testing.T) {
	n := tree(t, "var i; array a[?]; i = i + 1; i = i - 2; i = 1; i = len(a) - 1; i = a[i]; i = i * i; a[i] = i; a[0] = 1; a[i + 1] = a[i]; a[i * i] = 0; a[len(a) - 1] = 2; a[a[i]] = i; check i < len(a); check i != 1; check a[i] == i; check i * i <= i; read i; skip;")
	g := impl.GraphOf(n)
	var states []impl.Conf
	for _, list := range cellRows(cellsOver([]int{1}), 2) {
		for i := -1; i <= 3; i++ {
			states = append(states, impl.Conf{Vars: []int{i}, Cells: [][]impl.Cell{list}})
		}
	}
	var rows []impl.Seg
	for _, bounds := range smallBounds() {
		rows = append(rows, smallRows(bounds, []impl.Val{sure(span(1, 1)), unsure(noRange()), unsure(span(0, 1))})...)
	}
	facts := smallFacts([]int{-1, 0, 2, bound})
	var exprs []impl.Node
	for _, text := range []string{"i", "i - 1", "len(a) - i", "i * i", "a[i]", "a[0]", "a[i + 1]", "a[i * i]", "a[a[i]]", "i - a[i]", "a[len(a) - 1] + i"} {
		exprs = append(exprs, exprOf(t, text))
	}
	next := draws(1503)
	some := func(count int) int { return (next(1000)*1000 + next(1000)) % count }
	var k asked
	for round := range 4000 {
		a := impl.Abs{Facts: facts[some(len(facts))], Segs: []impl.Seg{rows[some(len(rows))]}}
		switch round % 4 {
		case 0:
			a.Facts = capsOf(3)
		case 1, 2:
			a.Facts = factsAround(next, 3, valsOf(states[some(len(states))]), valsOf(states[some(len(states))]))
		}
		for _, c := range states {
			if !hasByParts(a, c) {
				continue
			}
			c.Point = some(g.Points)
			k.keepsStep(t, n, g, a, c, []int{2})
			e := exprs[some(len(exprs))]
			k.keepsValue(t, n, a, c, e)
			k.keepsCond(t, n, a, c, node(impl.CdLess+some(6), e, exprs[some(len(exprs))]))
		}
	}
	if k.steps < 1300 || k.values < 1000 || k.conds < 700 || k.closer < 450 {
		t.Fatalf("%+v", k)
	}
}

// All symbols that there can be, and rows at their limits.
func TestStepsWithAllSymbols(t *testing.T) {
	n := tree(t, "array i[1]; var a; var b; var c; var d; array j[2]; var e; var f; var g; var h; array k[?]; array l[?]; h = len(l) - 3; l[h] = a; k[g] = l[h] - h; l[a * b] = 1; read d; check l[h] < k[g]; a = h;")
	start := impl.AbsStart(n)
	for edge := range impl.GraphOf(n).Edges {
		a := wantEdge(t, n, start, edge)
		for other := range impl.GraphOf(n).Edges {
			wantEdge(t, n, a, other)
		}
		wantValue(t, n, a, exprOf(t, "l[h - a] * k[len(k) - 1] + i[0]"))
		wantAssume(t, n, a, condOf(t, "h + 1 != len(l)"), true)
	}
	// A write where there is no room for its bounds.
	two := edgeProgram(t, "a[i] = 7; a[j] = 1; i = j + 1; j = i; a[9] = 0; read i; check i + 2 == len(a);")
	for _, row := range []impl.Seg{plainRow(16, 1), plainRow(2, 20), plainRow(16, 2), plainRow(1, 40), plainRow(15, 2), spacedRow(16, 0), spacedRow(15, 20), spacedRow(2, 38)} {
		for _, facts := range []string{"", "i >= 0, i - len(a) <= -1", "i = 0, len(a) >= 3", "i >= 5, j - i >= 2"} {
			a := impl.Abs{Facts: known(t, facts), Segs: []impl.Seg{row, seg(t, valuesB)}}
			for edge := range impl.GraphOf(two).Edges {
				wantEdge(t, two, a, edge)
			}
			wantValue(t, two, a, exprOf(t, "a[i] + a[j * 2]"))
		}
	}
}

// roomyTree: the same tree in lists with room behind them, in which something
// else stands.
func roomyTree(n impl.Node) impl.Node {
	count := len(n.Kids)
	kids := make([]impl.Node, 0, count+2)
	for _, kid := range n.Kids {
		kids = append(kids, roomyTree(kid))
	}
	n.Kids = append(kids, impl.Node{Kind: -1}, number(77))[:count]
	return n
}

// hasRoom: whether what stands behind the lists of a tree is as it was.
func hasRoom(n impl.Node) bool {
	room := n.Kids[:len(n.Kids)+2][len(n.Kids):]
	if !sameTree(room[0], impl.Node{Kind: -1}) || !sameTree(room[1], number(77)) {
		return false
	}
	for _, kid := range n.Kids {
		if !hasRoom(kid) {
			return false
		}
	}
	return true
}

// Every answer is new memory, no two lists of one share any, nothing is written
// into an argument nor behind it, and what is behind it is not read.
func TestArgumentsOfStepsAreKept(t *testing.T) {
	texts, conds := stepExprs(), stepConds()
	programs := stepPrograms(t)
	for at, one := range manyTold(t) {
		a, plain := roomyAbs(one), programs[at%len(programs)]
		n := roomyTree(plain)
		for round := range 2 {
			for _, text := range []string{"7", "i", "a[i]", "b[a[0]]", texts[(at*7+round)%len(texts)]} {
				e := roomyTree(exprOf(t, text))
				got, r := impl.AbsValue(n, a, e)
				want, s := valueByWords(plain, one, exprOf(t, text))
				wantAbs(t, got, want, text, one)
				wantRange(t, r, s, text, one)
				wipeAbs(t, got)
				wantRoom(t, a, one)
				if !sameTree(e, exprOf(t, text)) || !hasRoom(e) {
					t.Fatal(e)
				}
			}
			for _, text := range []string{"i < j", "a[i] != b[j]", "i == 3", conds[(at*11+round)%len(conds)]} {
				cond := roomyTree(condOf(t, text))
				got := impl.AbsAssume(n, a, cond, round == 0)
				wantAbs(t, got, assumeByWords(plain, one, condOf(t, text), round == 0), text, one)
				wipeAbs(t, got)
				wantRoom(t, a, one)
				if !sameTree(cond, condOf(t, text)) || !hasRoom(cond) {
					t.Fatal(cond)
				}
			}
			for edge := range impl.GraphOf(plain).Edges {
				got := impl.AbsEdge(n, a, edge)
				wantAbs(t, got, edgeByWords(plain, one, edge), edge, one)
				wipeAbs(t, got)
				wantRoom(t, a, one)
			}
		}
		if !sameTree(n, plain) || !hasRoom(n) {
			t.Fatal(n)
		}
	}
}

// What the rows of an argument share they do not share in an answer.
func TestSharedRowsOfSteps(t *testing.T) {
	n := edgeProgram(t, "a[i] = 1; b[j] = i; i = j; i = i + 1; read j; check i <= j; skip; b[i * j] = 2; stop; j = a[0];")
	all := []impl.Sym{sym(0, 0), sym(0, 1), sym(1, 0), sym(3, 0), sym(4, 0)}
	vals, maybe := []impl.Val{sure(span(1, 1)), unsure(span(3, 4)), unsure(span(2, 2))}, []bool{true, true, false}
	a := impl.Abs{Facts: known(t, "i - j <= 0, j <= 5"), Segs: []impl.Seg{
		{Bounds: [][]impl.Sym{all[:2], all[2:3], all[3:4]}, Vals: vals[:2], Maybe: maybe[:2]},
		{Bounds: [][]impl.Sym{all[:1], all[1:3], all[3:4], all[4:]}, Vals: vals, Maybe: maybe},
	}}
	before := copyAbs(a)
	for range 2 {
		for edge := range impl.GraphOf(n).Edges {
			got := wantEdge(t, n, a, edge)
			if isNothing(got) {
				t.Fatal(edge)
			}
			wipeAbs(t, got)
			wantAbs(t, a, before)
		}
		for _, text := range []string{"1", "i", "a[i]", "b[0] + a[j]"} {
			got, _ := wantValue(t, n, a, exprOf(t, text))
			if isNothing(got) {
				t.Fatal(text)
			}
			wipeAbs(t, got)
			wantAbs(t, a, before)
			got = wantAssume(t, n, a, condOf(t, text+" >= i - 9"), true)
			if isNothing(got) {
				t.Fatal(text)
			}
			wipeAbs(t, got)
			wantAbs(t, a, before)
		}
	}
}
