package tests

import (
	"math"
	"slices"
	"strconv"
	"strings"
	"testing"

	"loop.example/g00093/impl"
)

func nothing() impl.Abs { return impl.Abs{} }

func sameAbs(a, b impl.Abs) bool {
	return sameFacts(a.Facts, b.Facts) && slices.EqualFunc(a.Segs, b.Segs, sameSeg)
}

func isNothing(a impl.Abs) bool { return sameAbs(a, nothing()) }

func copyAbs(a impl.Abs) impl.Abs {
	c := impl.Abs{Facts: copyFacts(a.Facts)}
	for _, s := range a.Segs {
		c.Segs = append(c.Segs, copySeg(s))
	}
	return c
}

// remade: a copy of an Abs to which something was done.
func remade(a impl.Abs, change func(a *impl.Abs)) impl.Abs {
	a = copyAbs(a)
	change(&a)
	return a
}

func wantAbs(t *testing.T, got, want impl.Abs, about ...any) {
	t.Helper()
	if !sameAbs(got, want) {
		t.Fatalf("%v: %v, want %v", about, got, want)
	}
}

// twoArrays: a program whose labels are segNames.
func twoArrays(t *testing.T) impl.Node {
	t.Helper()
	return tree(t, "var i; array a[?]; var j; array b[?]; i = 1; while i < 9 { i = i + 1; }")
}

// told: an Abs of the two arrays, from texts; its facts are not closed.
func told(t *testing.T, facts, rowA, rowB string) impl.Abs {
	t.Helper()
	return impl.Abs{Facts: known(t, facts), Segs: []impl.Seg{seg(t, rowA), seg(t, rowB)}}
}

// toldClosed: likewise, with its facts closed.
func toldClosed(t *testing.T, facts, rowA, rowB string) impl.Abs {
	t.Helper()
	a := told(t, facts, rowA, rowB)
	a.Facts = closedByRounds(a.Facts)
	return a
}

const (
	plainA = "{0} 1..1 {i} none or unwritten ? {len(a)}"
	plainB = "{0} 2..3 or unwritten ? {len(b)}"
	emptyA = "{0} none {i} 1..1 ? {len(a)}"
	emptyB = "{0} 1..1 {j} none {len(b)}"
)

// noneSaid: facts of the five symbols that are ok, and close to none.
func noneSaid() impl.Facts { return putFact(putFact(capsOf(segSize), 1, 2, -1), 2, 1, 0) }

// becomeNothing: Abs of the two arrays that are ok, not nothing, and nothing when
// they are normed.
func becomeNothing(t *testing.T) []impl.Abs {
	ok := told(t, "i >= 1", plainA, plainB)
	return []impl.Abs{
		remade(ok, func(a *impl.Abs) { a.Facts = noneSaid() }),
		remade(ok, func(a *impl.Abs) { a.Facts = putFact(putFact(a.Facts, 1, 3, -1), 3, 0, 1) }),
		told(t, "i >= 1", emptyA, plainB),
		told(t, "", plainA, emptyB),
		told(t, "", emptyA, emptyB),
		told(t, "", "{0} none ? {i} none ? {j} none {len(a)}", plainB),
		told(t, "", plainA, "{0} none ? {i} 1..1 {j} none ? {3} none {7} none ? {len(b)}"),
	}
}

// someToldStates: Abs of the two arrays that are ok and have states.
func someToldStates(t *testing.T) []impl.Abs {
	return []impl.Abs{
		told(t, "", "{0} -1000000..1000000 or unwritten ? {len(a)}", "{0} -1000000..1000000 or unwritten ? {len(b)}"),
		told(t, "i >= 1, i - len(a) <= 0", plainA, plainB),
		told(t, "i = 0, j = 0, len(a) <= 60", "{0, i, j} none or unwritten ? {len(a)}", "{0, i, j} none or unwritten ? {len(b)}"),
		told(t, "i = 1, j >= 0", "{0} 5..5 {1, i} none or unwritten ? {len(a)}", "{0} 0..1 ? {j} none ? {j + 1} 4..4 ? {len(b)}"),
		told(t, "i - j <= 0, j <= 5", "{0} none ? {i} 2..2 ? {j} none ? {len(a)}", "{0} 2..2 or unwritten ? {len(b)}"),
		told(t, "len(a) = 0, len(b) = 0", "{0, len(a)}", "{0, len(b)}"),
		told(t, "len(a) = 0, len(b) = 0", "{0} none ? {len(a)}", "{0, len(a)} none ? {len(b)}"),
		told(t, "i <= 3, i - j = 1", "{0} 1..9 {i} 3..3 ? {len(a)}", "{0, len(a) - 3} 1..1 {j + 2} 0..0 ? {len(b)}"),
	}
}

// hasByParts: whether an Abs that is ok has a state that is ConfOk, asked pair by
// pair and cell by cell.
func hasByParts(a impl.Abs, c impl.Conf) bool {
	if isNothing(a) {
		return false
	}
	vals := valsOf(c)
	for i, one := range vals {
		for j, other := range vals {
			if one-other > mostAt(a.Facts, i, j) {
				return false
			}
		}
	}
	for array, s := range a.Segs {
		if !isSoByCells(len(vals), 1+len(c.Vars)+array, s, vals, c.Cells[array]) {
			return false
		}
	}
	return true
}

// normRow: a row, told from what is left between its bounds, and whether it can
// have a state.
func normRow(s impl.Seg) (impl.Seg, bool) {
	left := impl.Seg{Bounds: [][]impl.Sym{nil}}
	for at, bound := range s.Bounds {
		if at > 0 {
			switch v := s.Vals[at-1]; {
			case v != noCell():
				left.Bounds, left.Vals, left.Maybe = append(left.Bounds, nil), append(left.Vals, v), append(left.Maybe, s.Maybe[at-1])
			case !s.Maybe[at-1]:
				return impl.Seg{}, false
			}
		}
		last := len(left.Bounds) - 1
		left.Bounds[last] = sortTerms(append(left.Bounds[last], bound...))
	}
	return left, true
}

// normByParts: an Abs that is ok, normed, told otherwise.
func normByParts(a impl.Abs) impl.Abs {
	norm := impl.Abs{Facts: closedOrNone(a.Facts)}
	if isNoFacts(norm.Facts) {
		return nothing()
	}
	for _, s := range a.Segs {
		row, ok := normRow(s)
		if !ok {
			return nothing()
		}
		norm.Segs = append(norm.Segs, row)
	}
	return norm
}

// leqByParts, joinByParts and widenByParts: what is told of two Abs that are ok,
// told otherwise.
func leqByParts(a, b impl.Abs) bool {
	a, b = normByParts(a), normByParts(b)
	if isNothing(a) || isNothing(b) {
		return isNothing(a)
	}
	for at, most := range a.Facts.Most {
		if most > b.Facts.Most[at] {
			return false
		}
	}
	for array, s := range a.Segs {
		if !leqByTerms(s, b.Segs[array]) {
			return false
		}
	}
	return true
}

func joinByParts(a, b impl.Abs) impl.Abs {
	a, b = normByParts(a), normByParts(b)
	if isNothing(a) || isNothing(b) {
		return impl.Abs{Facts: factsOf(a.Facts.Size+b.Facts.Size, append(a.Facts.Most, b.Facts.Most...)...), Segs: append(a.Segs, b.Segs...)}
	}
	join := impl.Abs{Facts: factsBy(a.Facts.Size, func(i, j int) int { return max(mostAt(a.Facts, i, j), mostAt(b.Facts, i, j)) })}
	for array, s := range a.Segs {
		join.Segs = append(join.Segs, joinByTerms(s, b.Segs[array]))
	}
	return join
}

func widenByParts(a, b impl.Abs, steps []int) impl.Abs {
	rows, next := normByParts(a), normByParts(b)
	switch {
	case isNothing(rows):
		return next
	case isNothing(next):
		return impl.Abs{Facts: a.Facts, Segs: rows.Segs}
	}
	wide := impl.Abs{Facts: widenedFacts(a.Facts, next.Facts, steps)}
	for array, s := range rows.Segs {
		wide.Segs = append(wide.Segs, widenByTerms(s, next.Segs[array], steps))
	}
	return wide
}

// factsByPairs: facts as they are to be written.
func factsByPairs(f impl.Facts, labels []string) string {
	var said []string
	for i := range f.Size {
		for j := range f.Size {
			switch most := mostAt(f, i, j); {
			case most == capAt(i, j):
			case i == 0:
				said = append(said, labels[j-1]+" >= "+strconv.Itoa(-most))
			case j == 0:
				said = append(said, labels[i-1]+" <= "+strconv.Itoa(most))
			default:
				said = append(said, labels[i-1]+" - "+labels[j-1]+" <= "+strconv.Itoa(most))
			}
		}
	}
	if len(said) == 0 {
		return "any"
	}
	return strings.Join(said, ", ")
}

// textByParts: an Abs that is ok as it is to be written.
func textByParts(n impl.Node, a impl.Abs) string {
	if isNothing(a) {
		return "nothing\n"
	}
	labels := impl.LabelsOf(n)
	text := factsByPairs(a.Facts, labels) + "\n"
	for array, name := range impl.ArraysOf(n) {
		text += name + ": " + textByPieces(a.Segs[array], labels) + "\n"
	}
	return text
}

// isAbsByParts: whether an Abs is ok for a right program.
func isAbsByParts(n impl.Node, a impl.Abs) bool {
	vars, arrays := len(impl.VarsOf(n)), len(impl.ArraysOf(n))
	if isNothing(a) {
		return true
	}
	if a.Facts.Size != 1+vars+arrays || !impl.FactsOk(a.Facts) || len(a.Segs) != arrays {
		return false
	}
	for array, s := range a.Segs {
		if !isSegByPairs(1+vars+arrays, 1+vars+array, s) {
			return false
		}
	}
	return true
}

func wantAbsOk(t *testing.T, n impl.Node, a impl.Abs, want bool) {
	t.Helper()
	if got := impl.AbsOk(n, a); got != want {
		t.Fatalf("%s: %v: %v", shown(n), a, got)
	}
}

// wantNorm: what AbsNorm and AbsText tell of an Abs that is ok.
func wantNorm(t *testing.T, n impl.Node, a impl.Abs) impl.Abs {
	t.Helper()
	before := copyAbs(a)
	norm := impl.AbsNorm(n, a)
	wantAbs(t, norm, normByParts(a), "norm", before)
	wantAbsOk(t, n, norm, true)
	wantAbs(t, impl.AbsNorm(n, norm), norm, "norm again", before)
	if text := impl.AbsText(n, a); text != textByParts(n, a) {
		t.Fatalf("%v is written as %q", a, text)
	}
	wantAbs(t, a, before, "the argument")
	return norm
}

// joint is all that is told of two Abs.
type joint struct{ join, wide impl.Abs }

// wantJoint: what is told of two Abs that are ok is as it is told otherwise, and
// in order.
func wantJoint(t *testing.T, n impl.Node, a, b impl.Abs, steps []int) joint {
	t.Helper()
	beforeA, beforeB, beforeSteps := copyAbs(a), copyAbs(b), slices.Clone(steps)
	got := joint{impl.AbsJoin(n, a, b), impl.AbsWiden(n, a, b, steps)}
	wantAbs(t, got.join, joinByParts(a, b), "join", a, b)
	wantAbs(t, got.wide, widenByParts(a, b, steps), "widen", a, b, steps)
	for _, one := range []impl.Abs{got.join, got.wide} {
		if wantAbsOk(t, n, one, true); !isAbsByParts(n, one) || !impl.AbsLeq(n, a, one) || !impl.AbsLeq(n, b, one) {
			t.Fatalf("%v and %v: %v", a, b, one)
		}
	}
	for _, pair := range [][2]impl.Abs{{a, b}, {b, a}, {a, a}, {got.join, a}, {got.join, got.wide}, {got.wide, got.join}, {got.wide, b}} {
		if leq := impl.AbsLeq(n, pair[0], pair[1]); leq != leqByParts(pair[0], pair[1]) {
			t.Fatalf("%v in %v: %v", pair[0], pair[1], leq)
		}
	}
	if !sameAbs(a, beforeA) || !sameAbs(b, beforeB) || !slices.Equal(steps, beforeSteps) {
		t.Fatalf("%v, %v and %v have become %v, %v and %v", beforeA, beforeB, beforeSteps, a, b, steps)
	}
	return got
}

// wantNoAbs: of an Abs, or of a program, that is not as said nothing is told,
// whatever the other one is.
func wantNoAbs(t *testing.T, n impl.Node, a impl.Abs, others []impl.Abs, confs []impl.Conf) {
	t.Helper()
	wantAbsOk(t, n, a, false)
	if norm := impl.AbsNorm(n, a); !isNothing(norm) {
		t.Fatalf("%s: norm of %v: %v", shown(n), a, norm)
	}
	if text := impl.AbsText(n, a); text != "" {
		t.Fatalf("%s: %v is written as %q", shown(n), a, text)
	}
	for _, c := range confs {
		if impl.AbsHas(n, a, c) {
			t.Fatalf("%s: %v has %v", shown(n), a, c)
		}
	}
	for _, other := range append(others, a) {
		for _, pair := range [][2]impl.Abs{{a, other}, {other, a}} {
			join := impl.AbsJoin(n, pair[0], pair[1])
			wide := impl.AbsWiden(n, pair[0], pair[1], []int{0, 5})
			if !isNothing(join) || !isNothing(wide) || impl.AbsLeq(n, pair[0], pair[1]) {
				t.Fatalf("%s: %v and %v: %v, %v", shown(n), pair[0], pair[1], join, wide)
			}
		}
	}
}

// wrongAbs: what is not ok for the program with the two arrays.
func wrongAbs(t *testing.T) []impl.Abs {
	ok := told(t, "i >= 1", plainA, plainB)
	list := []impl.Abs{
		// Nothing, but with a Seg.
		{Segs: ok.Segs}, {Segs: ok.Segs[:1]}, {Segs: make([]impl.Seg, 1)}, {Segs: make([]impl.Seg, 2)}, {Segs: make([]impl.Seg, 100000)},
		// Too few and too many of them, in another order, of another length.
		{Facts: ok.Facts}, {Facts: ok.Facts, Segs: []impl.Seg{}}, {Facts: ok.Facts, Segs: ok.Segs[:1]}, {Facts: ok.Facts, Segs: ok.Segs[1:]},
		{Facts: ok.Facts, Segs: []impl.Seg{ok.Segs[0], ok.Segs[1], ok.Segs[1]}}, {Facts: ok.Facts, Segs: append(copyAbs(ok).Segs, impl.Seg{})},
		{Facts: ok.Facts, Segs: make([]impl.Seg, 2)}, {Facts: ok.Facts, Segs: make([]impl.Seg, 100000)},
		{Facts: ok.Facts, Segs: []impl.Seg{ok.Segs[1], ok.Segs[0]}}, {Facts: ok.Facts, Segs: []impl.Seg{ok.Segs[0], ok.Segs[0]}}, {Facts: ok.Facts, Segs: []impl.Seg{ok.Segs[1], ok.Segs[1]}},
		told(t, "", "{0} 1..1 {len(a) - 1}", plainB), told(t, "", plainA, "{0} 1..1 {len(b) + 1}"),
	}
	for size := range 15 {
		if size != segSize {
			list = append(list, impl.Abs{Facts: capsOf(size), Segs: ok.Segs})
		}
	}
	for _, f := range append(wrongFacts(), putFact(ok.Facts, 1, 2, gap+1), putFact(ok.Facts, 4, 4, 1), putFact(ok.Facts, 0, 4, bound+1), putFact(ok.Facts, 3, 2, -gap-1)) {
		list = append(list, impl.Abs{Facts: f, Segs: ok.Segs}, impl.Abs{Facts: f})
	}
	for _, s := range wrongSegs(t) {
		list = append(list, impl.Abs{Facts: ok.Facts, Segs: []impl.Seg{s, ok.Segs[1]}})
		if !isSegByPairs(segSize, segLen+1, s) {
			list = append(list, impl.Abs{Facts: ok.Facts, Segs: []impl.Seg{ok.Segs[0], s}})
		}
	}
	return list
}

func TestAbsOk(t *testing.T) {
	n := twoArrays(t)
	wantAbsOk(t, n, nothing(), true)
	wantAbsOk(t, n, impl.Abs{Segs: []impl.Seg{}}, true)
	wantAbsOk(t, n, impl.Abs{Facts: factsOf(0, []int{}...), Segs: make([]impl.Seg, 0, 3)}, true)
	for _, a := range append(becomeNothing(t), someToldStates(t)...) {
		wantAbsOk(t, n, a, true)
		if isNothing(a) || !isAbsByParts(n, a) {
			t.Fatal(a)
		}
	}
	for _, f := range []impl.Facts{capsOf(segSize), noneSaid(), factsBy(segSize, func(i, j int) int { return 0 }), known(t, "i = 1000000, j = -1000000")} {
		wantAbsOk(t, n, impl.Abs{Facts: f, Segs: []impl.Seg{seg(t, plainA), seg(t, plainB)}}, true)
	}
	// Rows at their limits, at each array.
	rows := [2][]impl.Seg{}
	for _, s := range []impl.Seg{plainRow(16, 1), plainRow(2, 20), plainRow(1, 40)} {
		last := len(s.Bounds) - 1
		other := changed(s, func(s *impl.Seg) { s.Bounds[last][len(s.Bounds[last])-1] = sym(4, 0) })
		rows[0], rows[1] = append(rows[0], s), append(rows[1], other)
	}
	for _, a := range rows[0] {
		for _, b := range rows[1] {
			wantAbsOk(t, n, impl.Abs{Facts: capsOf(segSize), Segs: []impl.Seg{a, b}}, true)
			wantAbsOk(t, n, impl.Abs{Facts: capsOf(segSize), Segs: []impl.Seg{b, a}}, false)
		}
	}
}

// topOf: an Abs of so many variables and arrays that says nothing.
func topOf(vars, arrays int) impl.Abs {
	a := impl.Abs{Facts: capsOf(1 + vars + arrays)}
	for k := range arrays {
		a.Segs = append(a.Segs, impl.SegTop(1+vars+arrays, 1+vars+k, unsure(span(-bound, bound))))
	}
	return a
}

// declared: a right program with so many variables and arrays of these sizes.
func declared(t *testing.T, vars int, sizes ...string) impl.Node {
	t.Helper()
	text := ""
	for k := range max(vars, len(sizes)) {
		if k < len(sizes) {
			text += "array a" + strconv.Itoa(k) + "[" + sizes[k] + "]; "
		}
		if k < vars {
			text += "var v" + strconv.Itoa(k) + "; "
		}
	}
	return tree(t, text+"skip;")
}

// Each count of variables and arrays, with what is ok for each other one.
func TestCountsOfStates(t *testing.T) {
	for vars := range 9 {
		for arrays := range 5 {
			n := declared(t, vars, slices.Repeat([]string{"?"}, arrays)...)
			for others := range 9 {
				for more := range 5 {
					wantAbsOk(t, n, topOf(others, more), others == vars && more == arrays)
				}
			}
			wantAbsOk(t, n, nothing(), true)
			top := topOf(vars, arrays)
			for _, size := range []int{vars + arrays, vars + arrays + 2} {
				wantAbsOk(t, n, impl.Abs{Facts: capsOf(size), Segs: top.Segs}, size == 0 && arrays == 0)
			}
			for at := range arrays {
				for _, wrong := range []impl.Seg{{}, changed(top.Segs[at], func(s *impl.Seg) { s.Vals[0].R = span(2, 0) }), impl.SegTop(2+vars+arrays, 1+vars+at+1, unsure(noRange()))} {
					wantNoAbs(t, n, remade(top, func(a *impl.Abs) { a.Segs[at] = wrong }), []impl.Abs{nothing(), top}, nil)
				}
			}
			wantJoint(t, n, top, top, nil)
			wantJoint(t, n, impl.AbsStart(n), top, nil)
			wantJoint(t, n, top, impl.AbsStart(n), nil)
		}
	}
}

func TestWrongAbs(t *testing.T) {
	n := twoArrays(t)
	confs := []impl.Conf{state([]int{0, 0}, "", ""), state([]int{1, 0}, "1", ""), state([]int{1, 2}, "1 .", "2"), {}}
	others := append(becomeNothing(t)[:3], append(someToldStates(t)[:4], nothing())...)
	for at, wrong := range wrongAbs(t) {
		if isAbsByParts(n, wrong) {
			t.Fatalf("%d: %v is ok", at, wrong)
		}
		wantNoAbs(t, n, wrong, others, confs)
	}
}

func TestStatesOfWrongPrograms(t *testing.T) {
	list := append(append(wrongAbs(t)[:20], becomeNothing(t)...), append(someToldStates(t), nothing(), impl.Abs{Segs: []impl.Seg{}})...)
	for vars := range 3 {
		for arrays := range 3 {
			list = append(list, topOf(vars, arrays))
		}
	}
	for at, n := range wrongPrograms(t) {
		if start := impl.AbsStart(n); !isNothing(start) {
			t.Fatalf("%d: %v", at, start)
		}
		for _, a := range list {
			wantNoAbs(t, n, a, []impl.Abs{nothing(), list[len(list)-1]}, []impl.Conf{{}, state([]int{0}, ". . ."), state([]int{0, 0}, "", "")})
		}
	}
}

func TestAbsHas(t *testing.T) {
	n := twoArrays(t)
	a := told(t, "i >= 1, i - len(a) <= 0, j - i <= 2", plainA, "{0} 2..3 or unwritten ? {j} 5..5 ? {len(b)}")
	has := func(a impl.Abs, c impl.Conf, want bool) {
		t.Helper()
		if got := impl.AbsHas(n, a, c); got != want || impl.ConfOk(n, c) && got != hasByParts(a, c) {
			t.Fatalf("%v has %v: %v", a, c, got)
		}
	}
	for _, one := range []struct {
		i, j int
		a, b string
		want bool
	}{
		{1, 0, "1", "", true}, {1, 0, "1 . .", "5 5", true}, {2, 1, "1 1 .", "2", true}, {2, 1, "1 1", "3 5 5", true}, {1, 3, "1", ". . 2", true}, {1, 2, "1 .", "2 . 5", true},
		// Facts alone.
		{1, 4, "1", "2 2 2 3", false}, {5, 0, "1 1", "", false}, {2, 5, "1 1", ". . . . .", false},
		// The row of the first array alone, and of the last one.
		{1, 0, "2", "", false}, {1, 0, ".", "", false}, {1, 0, "1 1", "", false}, {2, 0, "1 .", "", false},
		{1, 0, "1", "2", false}, {1, 1, "1", "4", false}, {1, 1, "1", "2 .", false}, {1, 2, "1", "2", false}, {1, 1, "1", "", false},
		// All of them.
		{0, 4, "7", "7", false}, {0, 0, "", "", false},
	} {
		has(a, state([]int{one.i, one.j}, one.a, one.b), one.want)
	}
	ok := state([]int{2, 1}, "1 1 .", "2")
	// What is told hangs on the variables and cells alone.
	for _, c := range []impl.Conf{
		with(ok, func(c *impl.Conf) { c.Point = 3 }),
		with(ok, func(c *impl.Conf) { c.Used, c.Steps = 100, 5000 }),
		with(ok, func(c *impl.Conf) { c.Trap = 1 }),
	} {
		has(a, c, true)
	}
	for _, c := range []impl.Conf{
		{},
		with(ok, func(c *impl.Conf) { c.Point = -1 }),
		with(ok, func(c *impl.Conf) { c.Point = 3000 }),
		with(ok, func(c *impl.Conf) { c.Vars = c.Vars[:1] }),
		with(ok, func(c *impl.Conf) { c.Vars = append(c.Vars, 0) }),
		with(ok, func(c *impl.Conf) { c.Vars[1] = -bound - 1 }),
		with(ok, func(c *impl.Conf) { c.Vars[1] = math.MinInt }),
		with(ok, func(c *impl.Conf) { c.Cells = c.Cells[:1] }),
		with(ok, func(c *impl.Conf) { c.Cells = nil }),
		with(ok, func(c *impl.Conf) { c.Cells = append(c.Cells, nil) }),
		with(ok, func(c *impl.Conf) { c.Cells[0] = slices.Repeat(c.Cells[0][:1], 61) }),
		with(ok, func(c *impl.Conf) { c.Cells[0][2] = unwritten(1) }),
		with(ok, func(c *impl.Conf) { c.Used = 101 }),
		with(ok, func(c *impl.Conf) { c.Steps = 5001 }),
		with(ok, func(c *impl.Conf) { c.Trap = 6 }),
		with(ok, func(c *impl.Conf) { c.Edge = 1 }),
		with(ok, func(c *impl.Conf) { c.Access = 1 }),
	} {
		has(a, c, false)
		has(topOf(2, 2), c, false)
	}
	for _, c := range []impl.Conf{ok, state([]int{0, 0}, "", ""), state([]int{0, 0}, ".", "")} {
		has(topOf(2, 2), c, true)
		has(nothing(), c, false)
		has(impl.Abs{Segs: []impl.Seg{}}, c, false)
		for _, none := range becomeNothing(t) {
			has(none, c, false)
		}
	}
	// At the limits.
	has(topOf(2, 2), state([]int{bound, -bound}, strings.Repeat(". ", 60), strings.Repeat("1000000 ", 60)), true)
}

// Of four arrays and eight variables each one alone can say that a state is none
// of those that are told.
func TestEachPartHas(t *testing.T) {
	n := declared(t, 8, "?", "3", "?", "2")
	c, ok := impl.Begin(n, []int{1, 60})
	if !ok {
		t.Fatal(n)
	}
	top := topOf(8, 4)
	if !impl.AbsHas(n, top, c) {
		t.Fatal(top)
	}
	for array := range 4 {
		for _, v := range []impl.Val{sure(span(0, 0)), noCell(), sure(span(-bound, bound))} {
			a := remade(top, func(a *impl.Abs) { a.Segs[array].Vals[0] = v })
			if impl.AbsHas(n, a, c) {
				t.Fatalf("array %d: %v", array, v)
			}
		}
		for _, v := range []impl.Val{unsure(noRange()), unsure(span(0, 0))} {
			a := remade(top, func(a *impl.Abs) { a.Segs[array].Vals[0], a.Segs[array].Maybe[0] = v, false })
			if !impl.AbsHas(n, a, c) {
				t.Fatalf("array %d: %v", array, v)
			}
		}
	}
	vals := valsOf(c)
	if !slices.Equal(vals, []int{0, 0, 0, 0, 0, 0, 0, 0, 0, 1, 3, 60, 2}) {
		t.Fatal(vals)
	}
	for i, one := range vals {
		for j, other := range vals {
			if i == j {
				continue
			}
			for _, most := range []int{one - other - 1, one - other, one - other + 1} {
				a := remade(top, func(a *impl.Abs) { a.Facts = putFact(a.Facts, i, j, most) })
				if impl.AbsHas(n, a, c) != (most >= one-other) {
					t.Fatalf("%d less %d at most %d", i, j, most)
				}
			}
		}
	}
}

func TestAbsNorm(t *testing.T) {
	n := twoArrays(t)
	for _, one := range []struct{ facts, a, b, normA, normB string }{
		// Facts that are not closed, rows that stay.
		{"i - j <= 0, j <= 5", plainA, plainB, plainA, plainB},
		{"", plainA, plainB, plainA, plainB},
		{"i = 3, i - len(a) = 2", "{0} none or unwritten ? {len(a)}", "{0} none or unwritten {len(b)}", "{0} none or unwritten ? {len(a)}", "{0} none or unwritten {len(b)}"},
		// What the facts say of bounds is not asked.
		{"i = 0", "{0} 1..1 ? {i} 2..2 {len(a)}", "{0} 1..1 {i} 2..2 {len(b)}", "{0} 1..1 ? {i} 2..2 {len(a)}", "{0} 1..1 {i} 2..2 {len(b)}"},
		{"i >= 1", "{0} 1..1 ? {i} none ? {len(a)}", plainB, "{0} 1..1 ? {i, len(a)}", plainB},
		{"i >= 1", "{0} none ? {i} 1..1 ? {len(a)}", plainB, "{0, i} 1..1 ? {len(a)}", plainB},
		{"", "{0} 1..1 ? {5} 2..2 ? {3} 9..9 {len(a)}", plainB, "{0} 1..1 ? {5} 2..2 ? {3} 9..9 {len(a)}", plainB},
		// No cell, Maybe: at the first array and at the last one, at each place.
		{"", "{0} none ? {len(a)}", plainB, "{0, len(a)}", plainB},
		{"", plainA, "{0} none ? {len(b)}", plainA, "{0, len(b)}"},
		{"", "{0} none ? {i} 2..2 {len(a)}", "{0} none ? {j} 2..2 {len(b)}", "{0, i} 2..2 {len(a)}", "{0, j} 2..2 {len(b)}"},
		{"", "{0} 2..2 {i} none ? {len(a)}", "{0} 2..2 ? {j} none ? {len(b)}", "{0} 2..2 {i, len(a)}", "{0} 2..2 ? {j, len(b)}"},
		{"", "{0} 1..1 {i} none ? {j} 2..2 ? {len(a)}", plainB, "{0} 1..1 {i, j} 2..2 ? {len(a)}", plainB},
		{"", "{0} 1..1 ? {j} none ? {i} 2..2 {len(a)}", plainB, "{0} 1..1 ? {i, j} 2..2 {len(a)}", plainB},
		// The terms of both, in order.
		{"", "{0, 7, j + 3} none ? {3, i - 1, i + 2, len(b)} 2..2 {i, len(a)}", plainB, "{0, 3, 7, i - 1, i + 2, j + 3, len(b)} 2..2 {i, len(a)}", plainB},
		{"", plainA, "{0} 1..1 {len(a)} none ? {i} 2..2 {len(b)}", plainA, "{0} 1..1 {i, len(a)} 2..2 {len(b)}"},
		// Three and more that become one.
		{"", "{0} none ? {i} none ? {j} none ? {len(a)}", "{0} none ? {j} none ? {3} 1..1 {len(b)}", "{0, i, j, len(a)}", "{0, 3, j} 1..1 {len(b)}"},
		{"", "{0} 1..1 {i} none ? {j} none ? {9} none ? {len(a)}", "{0} 1..1 {i} none ? {j} none ? {9} 2..2 ? {len(b)}", "{0} 1..1 {9, i, j, len(a)}", "{0} 1..1 {9, i, j} 2..2 ? {len(b)}"},
		{"", "{0} none ? {i} 1..1 {j} none ? {9} 2..2 {8} none ? {len(a)}", plainB, "{0, i} 1..1 {9, j} 2..2 {8, len(a)}", plainB},
		// One bound.
		{"len(a) = 0", "{0, len(a)}", "{0, i, len(b)}", "{0, len(a)}", "{0, i, len(b)}"},
	} {
		norm := wantNorm(t, n, told(t, one.facts, one.a, one.b))
		wantAbs(t, norm, toldClosed(t, one.facts, one.normA, one.normB), one)
	}
	for _, a := range becomeNothing(t) {
		if norm := wantNorm(t, n, a); !isNothing(norm) {
			t.Fatalf("%v: %v", a, norm)
		}
	}
	wantAbs(t, wantNorm(t, n, nothing()), nothing())
	wantAbs(t, wantNorm(t, n, impl.Abs{Segs: []impl.Seg{}}), nothing())
	// Sixteen bounds with forty terms that become one; one of them that must have
	// a cell, at each place.
	many := changed(plainRow(16, 2), func(s *impl.Seg) {
		for at := range s.Vals {
			s.Vals[at], s.Maybe[at] = noCell(), true
			if at < 8 {
				s.Bounds[at] = append(s.Bounds[at], sym(1, at))
			}
		}
	})
	for array := range 2 {
		a := told(t, "", plainA, plainB)
		a.Segs[array] = changed(many, func(s *impl.Seg) { s.Bounds[15][1] = sym(segLen+array, 0) })
		if norm := wantNorm(t, n, a); len(norm.Segs[array].Bounds) != 1 || len(norm.Segs[array].Bounds[0]) != 40 {
			t.Fatal(norm)
		}
		for at := range 15 {
			none := remade(a, func(a *impl.Abs) { a.Segs[array].Maybe[at] = false })
			if norm := wantNorm(t, n, none); !isNothing(norm) {
				t.Fatalf("%v: %v", none, norm)
			}
			some := remade(a, func(a *impl.Abs) { a.Segs[array].Vals[at].Sure = false })
			if norm := wantNorm(t, n, some); len(norm.Segs[array].Bounds) != 2 || !norm.Segs[array].Maybe[0] {
				t.Fatalf("%v: %v", some, norm)
			}
		}
	}
}

// Facts that close to none, with and without arrays.
func TestNormOfNoneFacts(t *testing.T) {
	for _, f := range someNones() {
		for arrays := range min(f.Size, 5) {
			vars := f.Size - 1 - arrays
			if vars > 8 {
				continue
			}
			n := declared(t, vars, slices.Repeat([]string{"?"}, arrays)...)
			a := impl.Abs{Facts: f, Segs: topOf(vars, arrays).Segs}
			if norm := wantNorm(t, n, a); !isNothing(norm) {
				t.Fatalf("%v: %v", a, norm)
			}
			if !impl.AbsLeq(n, a, nothing()) || impl.AbsLeq(n, topOf(vars, arrays), a) {
				t.Fatal(a)
			}
			wantAbs(t, wantJoint(t, n, a, topOf(vars, arrays), nil).join, topOf(vars, arrays))
			wantAbs(t, wantJoint(t, n, topOf(vars, arrays), a, nil).wide, topOf(vars, arrays))
		}
	}
}

func TestAbsStart(t *testing.T) {
	for text, want := range map[string]string{
		"skip;":                     "any\n",
		"var i;":                    "i >= 0, i <= 0\n",
		"var i; var j; read i;":     "i >= 0, j >= 0, i <= 0, i - j <= 0, j <= 0, j - i <= 0\n",
		"array a[?]; a[0] = 1;":     "len(a) >= 0, len(a) <= 60\na: {0} none or unwritten ? {len(a)}\n",
		"array a[0];":               "len(a) >= 0, len(a) <= 0\na: {0, len(a)}\n",
		"array a[1];":               "len(a) >= 1, len(a) <= 1\na: {0} none or unwritten {1, len(a)}\n",
		"array a[60];":              "len(a) >= 60, len(a) <= 60\na: {0} none or unwritten {60, len(a)}\n",
		"var i; array a[0];":        "i >= 0, len(a) >= 0, i <= 0, i - len(a) <= 0, len(a) <= 0, len(a) - i <= 0\na: {0, i, len(a)}\n",
		"array a[?]; var i; i = 3;": "i >= 0, len(a) >= 0, i <= 0, i - len(a) <= 0, len(a) <= 60, len(a) - i <= 60\na: {0, i} none or unwritten ? {len(a)}\n",
		"array z[2]; var y; array x[?]; var w;": "y >= 0, w >= 0, len(z) >= 2, len(x) >= 0, y <= 0, y - w <= 0, y - len(z) <= -2, y - len(x) <= 0, w <= 0, w - y <= 0, w - len(z) <= -2, w - len(x) <= 0, " +
			"len(z) <= 2, len(z) - y <= 2, len(z) - w <= 2, len(z) - len(x) <= 2, len(x) <= 60, len(x) - y <= 60, len(x) - w <= 60, len(x) - len(z) <= 58\n" +
			"z: {0, y, w} none or unwritten {2, len(z)}\nx: {0, y, w} none or unwritten ? {len(x)}\n",
	} {
		n := tree(t, text)
		start := impl.AbsStart(n)
		if got := impl.AbsText(n, start); got != want {
			t.Fatalf("%s: %q, want %q", text, got, want)
		}
		wantAbs(t, wantNorm(t, n, start), start, text)
	}
}

// startByParts: what AbsStart tells of a right program, told otherwise.
func startByParts(n impl.Node) impl.Abs {
	vars, sizes := len(impl.VarsOf(n)), impl.SizesOf(n)
	least, most := make([]int, 1+vars), make([]int, 1+vars)
	var zeros []impl.Sym
	for v := range vars + 1 {
		zeros = append(zeros, sym(v, 0))
	}
	var a impl.Abs
	for k, size := range sizes {
		s := impl.Seg{Bounds: [][]impl.Sym{slices.Clone(zeros), {sym(0, size), sym(1+vars+k, 0)}}, Vals: []impl.Val{unsure(noRange())}, Maybe: []bool{false}}
		switch {
		case size < 0:
			s.Bounds[1], s.Maybe[0] = s.Bounds[1][1:], true
			least, most = append(least, 0), append(most, 60)
		case size == 0:
			s = impl.Seg{Bounds: [][]impl.Sym{append(s.Bounds[0], s.Bounds[1][1])}}
			fallthrough
		default:
			least, most = append(least, size), append(most, size)
		}
		a.Segs = append(a.Segs, s)
	}
	a.Facts = factsBy(len(least), func(i, j int) int {
		if i == j {
			return 0
		}
		return most[i] - least[j]
	})
	return a
}

// AbsStart of many programs: as told otherwise, normed, and with the states in
// which runs begin, and no other ones beside them.
func TestStartsOfRuns(t *testing.T) {
	next := draws(14)
	sizes := []string{"?", "0", "1", "2", "59", "60", "?"}
	count := 0
	for range 150 {
		var drawn []string
		for range next(5) {
			drawn = append(drawn, sizes[next(len(sizes))])
		}
		n := declared(t, next(9), drawn...)
		if next(4) == 0 {
			n = rightProgram(next)
		}
		start := impl.AbsStart(n)
		if impl.Check(n).Code != impl.OK {
			wantAbs(t, start, nothing())
			continue
		}
		wantAbs(t, start, startByParts(n), shown(n))
		wantAbs(t, wantNorm(t, n, start), start)
		for range 6 {
			var lens []int
			for _, size := range impl.SizesOf(n) {
				if size < 0 {
					lens = append(lens, []int{0, 1, 2, 59, 60}[next(5)])
				}
			}
			c, ok := impl.Begin(n, lens)
			if !ok || !impl.AbsHas(n, start, c) {
				t.Fatalf("%s: %v is not in %v", shown(n), c, start)
			}
			count++
			for v := range c.Vars {
				if impl.AbsHas(n, start, with(c, func(c *impl.Conf) { c.Vars[v] = 1 - 2*next(2) })) {
					t.Fatalf("%s: variable %d", shown(n), v)
				}
			}
			for array, row := range c.Cells {
				if len(row) > 0 && impl.AbsHas(n, start, with(c, func(c *impl.Conf) { c.Cells[array][next(len(row))] = written(0) })) {
					t.Fatalf("%s: array %d", shown(n), array)
				}
			}
		}
	}
	if count < 500 {
		t.Fatal(count)
	}
	n := declared(t, 0, "?")
	for length := range 61 {
		if c, ok := impl.Begin(n, []int{length}); !ok || !impl.AbsHas(n, impl.AbsStart(n), c) {
			t.Fatal(length)
		}
	}
}

func TestAbsLeq(t *testing.T) {
	n := twoArrays(t)
	a := told(t, "i >= 1, i - len(a) <= 0", plainA, plainB)
	leq := func(a, b impl.Abs, want bool) {
		t.Helper()
		wantJoint(t, n, a, b, []int{0})
		if got := impl.AbsLeq(n, a, b); got != want {
			t.Fatalf("%v in %v: %v", a, b, got)
		}
	}
	leq(nothing(), nothing(), true)
	leq(nothing(), a, true)
	leq(a, nothing(), false)
	leq(a, a, true)
	for _, none := range becomeNothing(t) {
		leq(none, a, true)
		leq(a, none, false)
		leq(none, nothing(), true)
		leq(nothing(), none, true)
		for _, other := range becomeNothing(t) {
			leq(none, other, true)
		}
	}
	for _, one := range []struct {
		facts, a, b string
		below, over bool
	}{
		// Facts alone, also such as follow from others.
		{"i >= 0, i - len(a) <= 0", plainA, plainB, true, false},
		{"i >= 2, i - len(a) <= 0", plainA, plainB, false, true},
		{"i >= 1", plainA, plainB, true, false},
		{"i >= 1, i - len(a) <= 0, len(a) >= 1", plainA, plainB, true, true},
		{"i >= 1, i - len(a) <= 0, len(a) >= 2", plainA, plainB, false, true},
		{"i >= 1, i - len(a) <= 0, len(a) >= 0, j <= 7", plainA, plainB, false, true},
		{"i <= 3", plainA, plainB, false, false},
		// The row of the first array alone, of the last one alone, of both.
		{"i >= 1, i - len(a) <= 0", "{0} 0..1 {i} none or unwritten ? {len(a)}", plainB, true, false},
		{"i >= 1, i - len(a) <= 0", "{0} 1..1 {i} none or unwritten {len(a)}", plainB, false, true},
		{"i >= 1, i - len(a) <= 0", "{0} 1..1 {i, j} none or unwritten ? {len(a)}", plainB, false, true},
		{"i >= 1, i - len(a) <= 0", plainA, "{0} 2..4 or unwritten ? {len(b)}", true, false},
		{"i >= 1, i - len(a) <= 0", plainA, "{0} 2..2 or unwritten ? {len(b)}", false, true},
		{"i >= 1, i - len(a) <= 0", plainA, "{0, j} 2..3 or unwritten ? {len(b)}", false, true},
		{"i >= 1, i - len(a) <= 0", "{0} 1..1 or unwritten {len(a)}", "{0} 1..3 or unwritten ? {len(b)}", true, false},
		{"i >= 1, i - len(a) <= 0", "{0} 1..1 or unwritten {len(a)}", "{0} 2..3 or unwritten {len(b)}", false, false},
		// Normed they are the same.
		{"i >= 1, i - len(a) <= 0", "{0} 1..1 {i} none or unwritten ? {len(a)}", "{0} 2..3 or unwritten ? {len(b)}", true, true},
		{"i >= 1, i - len(a) <= 0", plainA, "{0} none ? {j} 2..3 or unwritten ? {len(b)}", false, true},
		{"i >= 1, i - len(a) <= 0", plainA, "{0} 2..3 or unwritten ? {j + 1} none ? {len(b)}", false, true},
		{"i >= 1, i - len(a) <= 0", plainA, "{0} 2..3 ? {j + 1} none or unwritten ? {len(b)}", false, true},
	} {
		b := told(t, one.facts, one.a, one.b)
		leq(a, b, one.below)
		leq(b, a, one.over)
	}
	// What is normed is asked, on each side: bounds that become one.
	two := told(t, "", "{0} none ? {i} 1..1 {len(a)}", plainB)
	leq(two, told(t, "", "{0, i} 1..1 {len(a)}", plainB), true)
	leq(told(t, "", "{0, i} 1..1 {len(a)}", plainB), two, true)
	leq(two, told(t, "", "{0} 1..1 {len(a)}", plainB), true)
	leq(told(t, "", "{0} 1..1 {len(a)}", plainB), two, false)
}

func TestAbsJoin(t *testing.T) {
	n := twoArrays(t)
	for _, a := range append(someToldStates(t), nothing()) {
		// The other one, normed.
		for _, none := range append(becomeNothing(t), nothing()) {
			wantAbs(t, wantJoint(t, n, a, none, nil).join, normByParts(a))
			wantAbs(t, wantJoint(t, n, none, a, nil).join, normByParts(a))
		}
		wantAbs(t, wantJoint(t, n, a, a, nil).join, normByParts(a))
		for _, b := range someToldStates(t) {
			wantJoint(t, n, a, b, []int{-3, 0, 3})
		}
	}
	for _, none := range append(becomeNothing(t), nothing()) {
		for _, other := range append(becomeNothing(t), nothing()) {
			wantAbs(t, wantJoint(t, n, none, other, nil).join, nothing())
		}
	}
	for _, one := range [][9]string{
		{"i = 0", "{0, i} none or unwritten ? {len(a)}", plainB, "i = 1", "{0} 6..6 {i} none or unwritten ? {len(a)}", plainB, "i >= 0, i <= 1", "{0} 6..6 ? {i} none or unwritten ? {len(a)}", plainB},
		// Of facts that are not closed, closed ones.
		{"i - j <= 0, j <= 5", plainA, plainB, "i <= 3", plainA, plainB, "i <= 5, i - j <= 1000003", plainA, plainB},
		{"i - j <= 0, j <= 5", plainA, plainB, "i <= 3, j <= 9", plainA, plainB, "i <= 5, j <= 9, i - j <= 1000003", plainA, plainB},
		// Of rows that are not normed, normed ones.
		{"", "{0} none ? {i} 1..1 {len(a)}", plainB, "", "{0, i} 2..2 {len(a)}", plainB, "", "{0, i} 1..2 {len(a)}", plainB},
		{"", "{0, j} 1..1 ? {len(a)}", "{0} 1..1 {i} none ? {len(b)}", "", "{0} none ? {j} 2..2 {len(a)}", "{0} 3..3 {i, len(b)}", "", "{0, j} 1..2 ? {len(a)}", "{0} 1..3 {i, len(b)}"},
		{"", "{0} none ? {len(a)}", plainB, "", "{0} 1..1 {len(a)}", plainB, "", "{0} 1..1 ? {len(a)}", plainB},
		{"", plainA, "{0} none ? {i} none ? {len(b)}", "", plainA, "{0} 1..1 {i} 2..2 {len(b)}", "", plainA, "{0} 1..1 ? {i} 2..2 ? {len(b)}"},
	} {
		a, b := told(t, one[0], one[1], one[2]), told(t, one[3], one[4], one[5])
		want := toldClosed(t, one[6], one[7], one[8])
		wantAbs(t, wantJoint(t, n, a, b, nil).join, want, one)
		wantAbs(t, wantJoint(t, n, b, a, nil).join, want, one)
	}
}

// wrongSteps: steps that are not as said.
func wrongSteps() [][]int {
	return [][]int{
		mostSteps(-20, 21), mostSteps(0, 500), {5, 5}, {0, 0, 1}, {1, 0}, {0, 2, 1}, {bound + 1}, {0, bound + 1}, {-bound - 1}, {-bound - 1, 0}, {math.MinInt}, {math.MaxInt}, {math.MinInt, math.MaxInt}, {bound, -bound},
	}
}

func TestAbsWiden(t *testing.T) {
	n := twoArrays(t)
	nones := append(becomeNothing(t), nothing())
	for _, steps := range append(someSteps(), []int{0, 5}) {
		for _, a := range someToldStates(t) {
			norm := normByParts(a)
			for _, none := range nones {
				// The normed other one; a itself, of which only the rows are normed.
				wantAbs(t, wantJoint(t, n, none, a, steps).wide, norm, none)
				wantAbs(t, wantJoint(t, n, a, none, steps).wide, impl.Abs{Facts: a.Facts, Segs: norm.Segs}, none)
			}
			wantAbs(t, wantJoint(t, n, a, a, steps).wide, impl.Abs{Facts: a.Facts, Segs: norm.Segs})
			for _, b := range someToldStates(t) {
				wantJoint(t, n, a, b, steps)
			}
		}
		for _, none := range nones {
			for _, other := range nones {
				wantAbs(t, wantJoint(t, n, none, other, steps).wide, nothing())
			}
		}
	}
	for _, steps := range wrongSteps() {
		for _, a := range append(someToldStates(t), nones...) {
			for _, b := range append(someToldStates(t), nones...) {
				if wide := impl.AbsWiden(n, a, b, steps); !isNothing(wide) {
					t.Fatalf("%v and %v by %v: %v", a, b, steps, wide)
				}
			}
		}
	}
}

// What becomes of facts that are not closed, and of rows that are not normed.
func TestWidenedStates(t *testing.T) {
	n := twoArrays(t)
	steps := []int{0, 4, 8}
	for _, one := range [][9]string{
		{"i = 0", "{0, i} 1..1 ? {len(a)}", plainB, "i = 1", "{0} 2..2 {i} 1..1 ? {len(a)}", plainB, "i >= 0, i <= 4", "{0} 2..2 ? {i} 1..1 ? {len(a)}", plainB},
		{"i >= 0, i <= 4", "{0} 2..2 ? {i} 1..1 ? {len(a)}", plainB, "i >= 1, i <= 5", "{0} 1..5 {i} 1..1 ? {len(a)}", plainB, "i >= 0, i <= 8", "{0} 0..8 ? {i} 1..1 ? {len(a)}", plainB},
		{"i >= 0, i <= 8", plainA, plainB, "i >= 1, i <= 9", plainA, plainB, "i >= 0", plainA, plainB},
		// That i is at most 5 is not said in a, and so not widened to 8.
		{"i - j <= 0, j <= 5", plainA, plainB, "i <= 7, i - j <= 0", plainA, plainB, "i - j <= 0", plainA, plainB},
		{"i - j <= 0, j <= 5", plainA, plainB, "i <= 7, i - j <= 0, j <= 6", plainA, plainB, "i - j <= 0, j <= 8", plainA, plainB},
		{"i - j <= 0, j <= 5", plainA, plainB, "i <= 7, i - j <= 3, j <= 5", plainA, plainB, "i - j <= 4, j <= 5", plainA, plainB},
		// It is said in a, and follows in b alone.
		{"i <= 5", plainA, plainB, "i - j <= 0, j <= 5", plainA, plainB, "i <= 5", plainA, plainB},
		{"i <= 4", plainA, plainB, "i - j <= 0, j <= 5", plainA, plainB, "i <= 8", plainA, plainB},
		// Rows that are not normed.
		{"", "{0} none ? {i} 1..1 {len(a)}", plainB, "", "{0, i} 2..2 {len(a)}", plainB, "", "{0, i} 1..4 {len(a)}", plainB},
		{"", plainA, "{0, i} 2..2 {len(b)}", "", plainA, "{0} none ? {i} 1..1 {len(b)}", "", plainA, "{0, i} 0..2 {len(b)}"},
		{"", "{0} none ? {len(a)}", "{0} 3..3 {i} none ? {len(b)}", "", "{0} 1..1 {len(a)}", "{0} 1..5 {i, len(b)}", "", "{0} 1..1 ? {len(a)}", "{0} 0..8 {i, len(b)}"},
	} {
		a, b := told(t, one[0], one[1], one[2]), told(t, one[3], one[4], one[5])
		wantAbs(t, wantJoint(t, n, a, b, steps).wide, told(t, one[6], one[7], one[8]), one)
	}
}

// What grows from round to round is widened only so many times: each number and
// each end of a range goes from step to step, and bounds only go.
func TestWideningOfStatesEnds(t *testing.T) {
	next := draws(1414)
	n := twoArrays(t)
	for range 20 {
		steps := mostSteps(-next(12), next(8))
		now, changes := nothing(), 0
		c := state([]int{0, 0}, ". .", "")
		for range 300 {
			c.Vars[next(2)] += next(3)
			if len(c.Cells[1]) < 40 && next(4) == 0 {
				c.Cells[1] = append(c.Cells[1], written(next(50)))
			}
			c.Cells[0][next(2)] = written(next(20) - 10)
			wide := impl.AbsWiden(n, now, absAround(next, n, c), steps)
			if !impl.AbsHas(n, wide, c) || !impl.AbsLeq(n, now, wide) {
				t.Fatalf("%v and %v: %v", now, c, wide)
			}
			if !sameAbs(wide, now) {
				changes++
			}
			now = wide
		}
		// Twenty pairs of symbols, and at most two rows of sixteen.
		if most := 20*(2*len(steps)+2) + 2*16*(2*len(steps)+5) + 1; changes > most {
			t.Fatalf("%v: %d changes", steps, changes)
		}
	}
}

func TestAbsText(t *testing.T) {
	n := twoArrays(t)
	for _, one := range []struct {
		a    impl.Abs
		want string
	}{
		{nothing(), "nothing\n"},
		{impl.Abs{Segs: []impl.Seg{}}, "nothing\n"},
		{told(t, "", plainA, plainB), "any\na: " + plainA + "\nb: " + plainB + "\n"},
		// As it stands, not normed.
		{told(t, "i - j <= 0, j <= 5", "{0} none ? {i} none ? {len(a)}", emptyB), "i - j <= 0, j <= 5\na: {0} none ? {i} none ? {len(a)}\nb: " + emptyB + "\n"},
		{impl.Abs{Facts: noneSaid(), Segs: told(t, "", plainA, plainB).Segs}, "i - j <= -1, j - i <= 0\na: " + plainA + "\nb: " + plainB + "\n"},
		{told(t, "len(b) - len(a) <= -7, i >= -3", "{0, i, len(a)}", "{0, len(a) + 9, len(b)}"), "i >= -3, len(b) - len(a) <= -7\na: {0, i, len(a)}\nb: {0, len(a) + 9, len(b)}\n"},
	} {
		if got := impl.AbsText(n, one.a); got != one.want {
			t.Fatalf("%v: %q, want %q", one.a, got, one.want)
		}
		wantNorm(t, n, one.a)
	}
	// The labels and names are those of the program.
	other := tree(t, "array x1234567[?]; var lens; array y[3]; var to1; skip;")
	got := impl.AbsText(other, told(t, "i >= 1, len(a) - j <= 4", plainA, plainB))
	if got != "lens >= 1, len(x1234567) - to1 <= 4\nx1234567: {0} 1..1 {lens} none or unwritten ? {len(x1234567)}\ny: {0} 2..3 or unwritten ? {len(y)}\n" {
		t.Fatalf("%q", got)
	}
	for text, want := range map[string]string{
		"skip;":         "any\n",
		"var x; var y;": "any\n",
		"array q[0];":   "any\nq: {0} -1000000..1000000 or unwritten ? {len(q)}\n",
		"array q[?]; array p[7]; array r[1]; array o[60];": "any\nq: {0} -1000000..1000000 or unwritten ? {len(q)}\np: {0} -1000000..1000000 or unwritten ? {len(p)}\n" +
			"r: {0} -1000000..1000000 or unwritten ? {len(r)}\no: {0} -1000000..1000000 or unwritten ? {len(o)}\n",
	} {
		n := tree(t, text)
		if got := impl.AbsText(n, topOf(len(impl.VarsOf(n)), len(impl.ArraysOf(n)))); got != want {
			t.Fatalf("%s: %q", text, got)
		}
		if got := impl.AbsText(n, nothing()); got != "nothing\n" {
			t.Fatalf("%s: %q", text, got)
		}
	}
}

// absAround: an Abs that has some states of a program (the first two, if there
// are two).
func absAround(next func(int) int, n impl.Node, states ...impl.Conf) impl.Abs {
	var list [][]int
	for _, c := range states {
		list = append(list, valsOf(c))
	}
	size := len(list[0])
	a := impl.Abs{Facts: factsAround(next, size, list...)}
	for array := range states[0].Cells {
		l := size - len(states[0].Cells) + array
		var row impl.Seg
		for at, c := range states {
			one := someRowAround(next, l, stateOf{list[at], c.Cells[array]})
			if !impl.SegOk(size, l, one) {
				one = impl.SegTop(size, l, valAround(next, c.Cells[array]))
			}
			if row = one; at > 0 {
				row = impl.SegJoin(size, l, a.Segs[array], one)
				a.Segs = a.Segs[:array]
			}
			a.Segs = append(a.Segs, row)
		}
	}
	return a
}

// absDrawn: an Abs of a program that is ok: around states, anything, one that
// says less than another, one that is nothing or becomes it.
func absDrawn(next func(int) int, n impl.Node, states []impl.Conf, other impl.Abs) impl.Abs {
	one := func() impl.Conf { return states[next(len(states))] }
	a := absAround(next, n, one())
	size := a.Facts.Size
	switch next(12) {
	case 0:
		return nothing()
	case 1:
		a.Facts = someFacts(next, size)
	case 2:
		if len(a.Segs) > 0 {
			s := &a.Segs[next(len(a.Segs))]
			if len(s.Vals) > 0 {
				at := next(len(s.Vals))
				s.Vals[at], s.Maybe[at] = noCell(), next(2) == 0
			}
		}
	case 3, 4:
		if !isNothing(other) {
			return looserAbs(next, normByParts(other))
		}
	case 5, 6:
		return absAround(next, n, one(), one())
	case 7:
		for k := range a.Segs {
			a.Segs[k] = shuffled(next, size-len(a.Segs)+k)
			if !impl.SegOk(size, size-len(a.Segs)+k, a.Segs[k]) {
				a.Segs[k] = impl.SegTop(size, size-len(a.Segs)+k, unsure(span(0, next(9))))
			}
		}
	}
	return a
}

// looserAbs: an Abs that says less than one that is normed.
func looserAbs(next func(int) int, a impl.Abs) impl.Abs {
	if isNothing(a) {
		return a
	}
	size := a.Facts.Size
	less := impl.Abs{Facts: factsBy(size, func(i, j int) int {
		if next(3) == 0 {
			return capAt(i, j)
		}
		return min(mostAt(a.Facts, i, j)+next(2)*next(3), capAt(i, j))
	})}
	for k, s := range a.Segs {
		less.Segs = append(less.Segs, looser(next, size, size-len(a.Segs)+k, s))
	}
	return less
}

// nearConf: a state that is a little other than this, if it may be one.
func nearConf(next func(int) int, n impl.Node, c impl.Conf) impl.Conf {
	near := with(c, func(c *impl.Conf) {
		if len(c.Vars) > 0 && next(3) == 0 {
			c.Vars[next(len(c.Vars))] += next(3) - 1
		}
		if len(c.Cells) > 0 {
			row := &c.Cells[next(len(c.Cells))]
			switch {
			case next(4) == 0:
				*row = append(*row, written(next(5)-2))
			case len(*row) > 0:
				(*row)[next(len(*row))] = []impl.Cell{{}, written(0), written(1), written(-2)}[next(4)]
			}
		}
	})
	if !impl.ConfOk(n, near) {
		return c
	}
	return near
}

// statesOfRuns: some states in which runs of a program come, and some beside
// them.
func statesOfRuns(next func(int) int, n impl.Node, count int) []impl.Conf {
	var list []impl.Conf
	for len(list) < 3 {
		var lens []int
		for _, size := range impl.SizesOf(n) {
			if size < 0 {
				lens = append(lens, next(5))
			}
		}
		list = append(list, impl.RunTo(n, lens, []int{3, -1, 2, 0, 5}, next(60)))
	}
	for len(list) < count {
		list = append(list, nearConf(next, n, list[next(len(list))]))
	}
	return list
}

// wantKept: promise 13: what one of two has their join has, and what is widened;
// what is normed has just what it had; and of two of which the one is in the
// other the other has all states of the one. It tells how many states were had,
// and how often one was in another.
func wantKept(t *testing.T, n impl.Node, a, b impl.Abs, steps []int, states []impl.Conf) (int, int) {
	t.Helper()
	got := wantJoint(t, n, a, b, steps)
	all := []impl.Abs{a, b, got.join, got.wide, wantNorm(t, n, a), wantNorm(t, n, b)}
	had := make([][]bool, len(all))
	count, orders := 0, 0
	for i, one := range all {
		for _, c := range states {
			has := impl.AbsHas(n, one, c)
			if has != hasByParts(one, c) {
				t.Fatalf("%v has %v: %v", one, c, has)
			}
			had[i] = append(had[i], has)
		}
	}
	for at, c := range states {
		if had[0][at] || had[1][at] {
			count++
			if !had[2][at] || !had[3][at] {
				t.Fatalf("%v and %v: %v is lost: %v", a, b, c, got)
			}
		}
		if had[0][at] != had[4][at] || had[1][at] != had[5][at] {
			t.Fatalf("%v and %v: %v is another when they are normed", a, b, c)
		}
	}
	for i, one := range all {
		for j, other := range all {
			if i == j || !impl.AbsLeq(n, one, other) {
				continue
			}
			if i < 2 && j < 2 && !isNothing(all[4]) && !isNothing(all[5]) {
				orders++
			}
			for at, c := range states {
				if had[i][at] && !had[j][at] {
					t.Fatalf("%v is in %v, which has not %v", one, other, c)
				}
			}
		}
	}
	return count, orders
}

// Promise 13, over programs of all kinds, many Abs of them and many states of
// their runs.
func TestStatesAreKept(t *testing.T) {
	next := draws(1300)
	had, orders, nones, asked := 0, 0, 0, 0
	for round := range 120 {
		var n impl.Node
		switch round % 3 {
		case 0:
			n = runProgram(t, next)
		case 1:
			n = rightProgram(next)
		case 2:
			n = declared(t, next(9), [][]string{{}, {"?"}, {"2", "?"}, {"?", "?", "0"}, {"3", "?", "1", "?"}}[next(5)]...)
		}
		if impl.Check(n).Code != impl.OK {
			continue
		}
		states := statesOfRuns(next, n, 8)
		for range 5 {
			a := absDrawn(next, n, states, nothing())
			b := absDrawn(next, n, states, a)
			if !isAbsByParts(n, a) || !isAbsByParts(n, b) {
				t.Fatalf("%v or %v is not ok", a, b)
			}
			count, order := wantKept(t, n, a, b, someSteps()[next(len(someSteps()))], states)
			had, orders, asked = had+count, orders+order, asked+1
			if isNothing(normByParts(a)) || isNothing(normByParts(b)) {
				nones++
			}
		}
	}
	if had < 1500 || orders < 60 || nones < 60 || asked < 450 {
		t.Fatalf("%d states were had, %d times one was in another, %d times one was nothing, %d pairs", had, orders, nones, asked)
	}
}

// What says less than another one has it in itself.
func TestLooserStates(t *testing.T) {
	next := draws(1401)
	n := tree(t, "var i; array a[3]; var j; array b[?]; read i; a[i] = j; j = i; b[j] = i; a[0] = 2;")
	for range 150 {
		states := statesOfRuns(next, n, 6)
		a := normByParts(absDrawn(next, n, states, nothing()))
		b := looserAbs(next, a)
		if !impl.AbsLeq(n, a, b) || !impl.AbsLeq(n, nothing(), b) || impl.AbsLeq(n, b, nothing()) != isNothing(normByParts(b)) {
			t.Fatalf("%v is not in %v", a, b)
		}
		wantKept(t, n, a, b, nil, states)
	}
}

// Promise 13, of all pairs of some small Abs, in all small states.
func TestSmallStates(t *testing.T) {
	n := tree(t, "var i; array a[?]; skip;")
	var states []impl.Conf
	for _, list := range cellRows(cellsOver([]int{1}), 2) {
		for i := -1; i <= 3; i++ {
			states = append(states, impl.Conf{Vars: []int{i}, Cells: [][]impl.Cell{list}})
		}
	}
	var rows []impl.Seg
	for _, bounds := range smallBounds() {
		rows = append(rows, smallRows(bounds, []impl.Val{noCell(), sure(span(1, 1)), unsure(noRange())})...)
	}
	facts := smallFacts([]int{-1, 0, 2, bound})
	next := draws(1402)
	had, orders, merged := 0, 0, 0
	some := func() impl.Abs {
		a := impl.Abs{Facts: facts[(next(1000)*1000+next(1000))%len(facts)], Segs: []impl.Seg{rows[(next(1000)*1000+next(1000))%len(rows)]}}
		if next(2) == 0 {
			a.Facts = capsOf(3)
		}
		return a
	}
	for range 800 {
		a, b := some(), some()
		if next(3) == 0 {
			b.Segs = copyAbs(a).Segs
		}
		count, order := wantKept(t, n, a, b, []int{1}, states)
		had, orders = had+count, orders+order
		if norm := normByParts(a); !isNothing(norm) && len(norm.Segs[0].Bounds) < len(a.Segs[0].Bounds) {
			merged++
		}
	}
	if had < 150 || orders < 50 || merged < 80 {
		t.Fatalf("%d states were had, %d times one was in another, %d times bounds became one", had, orders, merged)
	}
}

// wipeAbs: writes into each list of an answer, and into the room behind it, and
// asks that no two lists of it share memory.
func wipeAbs(t *testing.T, a impl.Abs) {
	t.Helper()
	seen := map[any]int{}
	note := func(place any) {
		if seen[place]++; seen[place] > 1 {
			t.Fatalf("%v: two lists share memory", a)
		}
	}
	for _, s := range a.Segs {
		for _, bound := range s.Bounds {
			bound = bound[:cap(bound)]
			for at := range bound {
				note(&bound[at])
				bound[at] = sym(math.MinInt, math.MaxInt)
			}
		}
		bounds, vals, maybe := s.Bounds[:cap(s.Bounds)], s.Vals[:cap(s.Vals)], s.Maybe[:cap(s.Maybe)]
		for at := range bounds {
			note(&bounds[at])
		}
		for at := range vals {
			note(&vals[at])
			vals[at] = impl.Val{R: span(9, 3)}
		}
		for at := range maybe {
			note(&maybe[at])
			maybe[at] = !maybe[at]
		}
		clear(bounds)
	}
	most := a.Facts.Most[:cap(a.Facts.Most)]
	for at := range most {
		most[at] = math.MinInt
	}
	clear(a.Segs[:cap(a.Segs)])
}

// roomyAbs: the same Abs in lists with room behind them, in which something else
// stands.
func roomyAbs(a impl.Abs) impl.Abs {
	r := impl.Abs{Facts: roomyFacts(a.Facts)}
	for _, s := range a.Segs {
		r.Segs = append(r.Segs, roomy(s))
	}
	r.Segs = append(r.Segs, impl.SegTop(2, 1, noCell()), impl.Seg{})[:len(a.Segs)]
	return r
}

// wantRoom: an Abs that is roomy is as it was, and so is the room behind it.
func wantRoom(t *testing.T, a, before impl.Abs) {
	t.Helper()
	wantAbs(t, a, before, "the argument")
	if count := len(a.Facts.Most); !slices.Equal(a.Facts.Most[count:count+2], []int{77, -gap}) {
		t.Fatalf("behind %v", a.Facts)
	}
	room := a.Segs[:len(a.Segs)+2][len(a.Segs):]
	if !sameSeg(room[0], impl.SegTop(2, 1, noCell())) || !isNoSeg(room[1]) {
		t.Fatalf("behind %v", a)
	}
	for at, s := range a.Segs {
		terms1, vals1, maybe1 := behind(s)
		terms2, vals2, maybe2 := behind(roomy(before.Segs[at]))
		if !slices.Equal(terms1, terms2) || !slices.Equal(vals1, vals2) || !slices.Equal(maybe1, maybe2) {
			t.Fatalf("behind %v", s)
		}
	}
}

// Every answer is new memory, no two lists of one share any, nothing is written
// into an argument nor behind it, and what is behind it is not read.
func TestArgumentsOfStatesAreKept(t *testing.T) {
	n := twoArrays(t)
	before := copyTree(n)
	c := state([]int{1, 0}, "1 .", "2")
	steps := []int{-4, 0, 4, 3, 2}
	list := append(append(someToldStates(t), becomeNothing(t)[:4]...), nothing())
	for _, one := range list {
		a := roomyAbs(one)
		for range 2 {
			wantAbsOk(t, n, a, true)
			if impl.AbsHas(n, a, c) != hasByParts(one, c) || impl.AbsText(n, a) != textByParts(n, one) {
				t.Fatal(one)
			}
			norm := impl.AbsNorm(n, a)
			wantAbs(t, norm, normByParts(one))
			wipeAbs(t, norm)
			wantRoom(t, a, one)
			for _, other := range list {
				b := roomyAbs(other)
				join, wide := impl.AbsJoin(n, a, b), impl.AbsWiden(n, a, b, steps[:3])
				wantAbs(t, join, joinByParts(one, other), one, other)
				wantAbs(t, wide, widenByParts(one, other, steps[:3]), one, other)
				if impl.AbsLeq(n, a, b) != leqByParts(one, other) {
					t.Fatal(one, other)
				}
				wipeAbs(t, join)
				wipeAbs(t, wide)
				wantRoom(t, a, one)
				wantRoom(t, b, other)
			}
			// The same on both sides.
			wipeAbs(t, impl.AbsJoin(n, a, a))
			wipeAbs(t, impl.AbsWiden(n, a, a, nil))
			wantRoom(t, a, one)
		}
	}
	for range 2 {
		start := impl.AbsStart(n)
		wantAbs(t, start, startByParts(n))
		wipeAbs(t, start)
	}
	if !sameTree(n, before) || !slices.Equal(steps, []int{-4, 0, 4, 3, 2}) || !sameConf(c, state([]int{1, 0}, "1 .", "2")) {
		t.Fatal(n, steps, c)
	}
}

// What the rows of an argument share they do not share in an answer.
func TestSharedRowsAreParted(t *testing.T) {
	n := twoArrays(t)
	all := []impl.Sym{sym(0, 0), sym(0, 1), sym(1, 0), sym(3, 0), sym(4, 0)}
	vals, maybe := []impl.Val{sure(span(1, 1)), noCell(), unsure(span(2, 2))}, []bool{true, true, false}
	a := impl.Abs{Facts: known(t, "i - j <= 0, j <= 5"), Segs: []impl.Seg{
		{Bounds: [][]impl.Sym{all[:2], all[2:3], all[3:4]}, Vals: vals[:2], Maybe: maybe[:2]},
		{Bounds: [][]impl.Sym{all[:1], all[1:3], all[3:4], all[4:]}, Vals: vals, Maybe: maybe},
	}}
	b := impl.Abs{Facts: a.Facts, Segs: a.Segs}
	before := copyAbs(a)
	for range 2 {
		got := wantJoint(t, n, a, b, nil)
		for _, one := range []impl.Abs{got.join, got.wide, wantNorm(t, n, a), impl.AbsWiden(n, a, nothing(), nil), impl.AbsWiden(n, nothing(), a, nil), impl.AbsJoin(n, a, nothing()), impl.AbsJoin(n, nothing(), a)} {
			if isNothing(one) {
				t.Fatal("nothing")
			}
			wipeAbs(t, one)
		}
		wantAbs(t, a, before)
		wantAbs(t, b, before)
	}
}
