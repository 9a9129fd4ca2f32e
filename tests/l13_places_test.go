package tests

import (
	"math"
	"slices"
	"strconv"
	"strings"
	"testing"

	"loop.example/g00093/impl"
)

// known reads facts of the five symbols from what is said of them, with a comma
// and a blank between: x <= 5, x >= 2, x = 3, x - y <= 3, x - y = 3. They are
// not closed.
func known(t *testing.T, text string) impl.Facts {
	t.Helper()
	f := capsOf(segSize)
	for _, one := range strings.Split(text, ", ") {
		if one == "" {
			continue
		}
		words := strings.Fields(one)
		count := len(words)
		num, err := strconv.Atoi(words[count-1])
		i, j := 1+slices.Index(segNames(), words[0]), 0
		if count == 5 {
			j = 1 + slices.Index(segNames(), words[2])
		}
		if err != nil || i == 0 || count == 5 && j == 0 {
			t.Fatalf("%q is no fact", one)
		}
		if words[count-2] != ">=" {
			f = putFact(f, i, j, min(num, mostAt(f, i, j)))
		}
		if words[count-2] != "<=" {
			f = putFact(f, j, i, min(-num, mostAt(f, j, i)))
		}
	}
	if !impl.FactsOk(f) || isNoFacts(closedByRounds(f)) {
		t.Fatalf("%q are no facts", text)
	}
	return f
}

// oneTerm: a term of the five symbols, also one whose number is past MaxOff.
func oneTerm(t *testing.T, text string) impl.Sym {
	t.Helper()
	if num, err := strconv.Atoi(text); err == nil {
		return sym(0, num)
	}
	return termList(t, text)[0]
}

// isBelow: whether x is below y by d, by facts that are closed.
func isBelow(closed impl.Facts, x, y impl.Sym, d int) bool {
	return mostAt(closed, x.V, y.V)+x.C+d <= y.C
}

// areBelow: whether some term of the first is below some of the second by d.
func areBelow(closed impl.Facts, first, second []impl.Sym, d int) bool {
	for _, x := range first {
		if slices.ContainsFunc(second, func(y impl.Sym) bool { return isBelow(closed, x, y, d) }) {
			return true
		}
	}
	return false
}

func sortTerms(terms []impl.Sym) []impl.Sym {
	slices.SortFunc(terms, func(a, b impl.Sym) int { return 10000*(a.V-b.V) + a.C - b.C })
	return slices.Compact(terms)
}

// sharpenByGroups: a Seg that is ok, sharpened by facts that are closed, told by
// the bounds that come together.
func sharpenByGroups(s impl.Seg, closed impl.Facts) impl.Seg {
	sharp := impl.Seg{Bounds: [][]impl.Sym{slices.Clone(s.Bounds[0])}}
	for at, v := range s.Vals {
		group, next := &sharp.Bounds[len(sharp.Bounds)-1], s.Bounds[at+1]
		isMaybe := s.Maybe[at] && !areBelow(closed, s.Bounds[at], next, 1)
		if isMaybe && (v == noCell() || areBelow(closed, next, *group, 0)) {
			*group = sortTerms(append(*group, next...))
			continue
		}
		sharp.Bounds, sharp.Vals, sharp.Maybe = append(sharp.Bounds, slices.Clone(next)), append(sharp.Vals, v), append(sharp.Maybe, isMaybe)
	}
	return sharp
}

// spanByNumbers: the numbers of all bounds that would do, and the greatest and
// the least of them.
func spanByNumbers(s impl.Seg, closed impl.Facts, a, b impl.Sym) (int, int) {
	last := len(s.Vals)
	if last == 0 {
		return 0, 0
	}
	froms, tos := []int{0}, []int{last}
	for at, bound := range s.Bounds {
		if at < last && areBelow(closed, bound, []impl.Sym{a}, 0) {
			froms = append(froms, at)
		}
	}
	from := slices.Max(froms)
	for at, bound := range s.Bounds {
		if at > from && areBelow(closed, []impl.Sym{b}, bound, 1) {
			tos = append(tos, at)
		}
	}
	return from, slices.Min(tos)
}

func readByNumbers(s impl.Seg, closed impl.Facts, a, b impl.Sym) impl.Val {
	from, to := spanByNumbers(s, closed, a, b)
	v, _ := saidFromTo(s, from, to)
	return v
}

func weakByNumbers(s impl.Seg, closed impl.Facts, a, b impl.Sym, r impl.Range) impl.Seg {
	from, to := spanByNumbers(s, closed, a, b)
	return changed(s, func(s *impl.Seg) {
		for at, v := range s.Vals {
			if ends := []int{r.Lo, r.Hi}; at >= from && at < to {
				if v.R != noRange() {
					ends = append(ends, v.R.Lo, v.R.Hi)
				}
				s.Vals[at].R = around(ends)
			}
		}
	})
}

// xMark and nextMark stand for what is written until all else is in its place.
var xMark, nextMark = sym(-2, 0), sym(-1, 0)

// writeByPieces: a Seg that is ok behind a strong write: its pieces are laid one
// behind the other, with marks where x and next will stand.
func writeByPieces(size, l int, s impl.Seg, closed impl.Facts, x impl.Sym, r impl.Range) impl.Seg {
	next := sym(x.V, x.C+1)
	if len(s.Bounds) == 1 || x == sym(l, 0) || next == sym(0, 0) || x.C < -1000 || next.C > 1000 {
		return weakByNumbers(s, closed, x, x, r)
	}
	put := piecesOf(l, s, closed, x, r)
	if len(put.Bounds) > 16 || len(allTerms(put)) > 40 {
		gone := slices.DeleteFunc(allTerms(s), func(term impl.Sym) bool { return term == x || term == next })
		put = piecesOf(l, dropByPlaces(l, s, gone), closed, x, r)
	}
	return put
}

func piecesOf(l int, s impl.Seg, closed impl.Facts, x impl.Sym, r impl.Range) impl.Seg {
	next, last := sym(x.V, x.C+1), len(s.Vals)
	from, to := spanByNumbers(s, closed, x, x)
	if x == sym(0, 0) {
		from = 0
	}
	if next == sym(l, 0) {
		to = last
	}
	said, _ := saidFromTo(s, from, to)
	put := changed(s, func(s *impl.Seg) { s.Bounds, s.Vals, s.Maybe = s.Bounds[:from+1], s.Vals[:from], s.Maybe[:from] })
	add := func(v impl.Val, isMaybe bool, bound []impl.Sym) {
		put.Bounds, put.Vals, put.Maybe = append(put.Bounds, bound), append(put.Vals, v), append(put.Maybe, isMaybe)
	}
	begin, end := s.Bounds[from], s.Bounds[to]
	if slices.Contains(begin, x) || areBelow(closed, []impl.Sym{x}, begin, 0) {
		put.Bounds[from] = append(put.Bounds[from], xMark)
	} else {
		add(said, !areBelow(closed, begin, []impl.Sym{x}, 1), []impl.Sym{xMark})
	}
	if slices.Contains(end, next) || areBelow(closed, end, []impl.Sym{next}, 0) {
		add(sure(r), false, append(slices.Clone(end), nextMark))
	} else {
		add(sure(r), false, []impl.Sym{nextMark})
		add(said, !areBelow(closed, []impl.Sym{next}, end, 1), slices.Clone(end))
	}
	for at := to; at < last; at++ {
		add(s.Vals[at], s.Maybe[at], slices.Clone(s.Bounds[at+1]))
	}
	put = dropByPlaces(l, put, []impl.Sym{x, next})
	for at, bound := range put.Bounds {
		for place, term := range bound {
			switch term {
			case xMark:
				bound[place] = x
			case nextMark:
				bound[place] = next
			}
		}
		put.Bounds[at] = sortTerms(bound)
	}
	return put
}

// isWide: whether a term may be asked for where there are so many symbols.
func isWide(size int, x impl.Sym) bool {
	return x.V >= 0 && x.V < size && x.C >= -2000000 && x.C <= 2000000
}

// A ground is a Seg that is ok, facts that may be worked with, and these closed.
type ground struct {
	size, l   int
	s         impl.Seg
	f, closed impl.Facts
}

func groundOf(size, l int, s impl.Seg, f impl.Facts) ground {
	return ground{size, l, s, f, closedByRounds(f)}
}

// wantOk: what came is a Seg that is ok, and the arguments are as they were.
func (g ground) wantOk(t *testing.T, got impl.Seg, s impl.Seg, f impl.Facts) {
	t.Helper()
	if wantSegOk(t, g.size, g.l, got, true); !isSegByPairs(g.size, g.l, got) {
		t.Fatalf("%v comes of %v", got, s)
	}
	wantSeg(t, g.s, s, "the argument")
	wantFacts(t, g.f, f, "the argument")
}

func (g ground) wantSharpen(t *testing.T) impl.Seg {
	t.Helper()
	s, f := copySeg(g.s), copyFacts(g.f)
	got := impl.SegSharpen(g.size, g.l, g.s, g.f)
	wantSeg(t, got, sharpenByGroups(s, g.closed), "sharpen", s, f)
	g.wantOk(t, got, s, f)
	return got
}

func (g ground) wantSpan(t *testing.T, a, b impl.Sym) (int, int) {
	t.Helper()
	from, to := impl.SegSpan(g.size, g.l, g.s, g.f, a, b)
	if from2, to2 := spanByNumbers(g.s, g.closed, a, b); from != from2 || to != to2 {
		t.Fatalf("%v, %v: %v to %v: %d and %d, want %d and %d", g.s, g.f, a, b, from, to, from2, to2)
	}
	return from, to
}

func (g ground) wantRead(t *testing.T, a, b impl.Sym) impl.Val {
	t.Helper()
	got := impl.SegRead(g.size, g.l, g.s, g.f, a, b)
	wantSaid(t, got, readByNumbers(g.s, g.closed, a, b), "read", g.s, g.f, a, b)
	return got
}

func (g ground) wantWrite(t *testing.T, x impl.Sym, r impl.Range) impl.Seg {
	t.Helper()
	s, f := copySeg(g.s), copyFacts(g.f)
	got := impl.SegWrite(g.size, g.l, g.s, g.f, x, r)
	wantSeg(t, got, writeByPieces(g.size, g.l, s, g.closed, x, r), "write", s, f, x)
	g.wantOk(t, got, s, f)
	return got
}

func (g ground) wantWeak(t *testing.T, a, b impl.Sym, r impl.Range) impl.Seg {
	t.Helper()
	s, f := copySeg(g.s), copyFacts(g.f)
	got := impl.SegWeak(g.size, g.l, g.s, g.f, a, b, r)
	wantSeg(t, got, weakByNumbers(s, g.closed, a, b, r), "weak", s, f, a, b)
	g.wantOk(t, got, s, f)
	return got
}

// wantAll: what all five tell of these arguments is as it is told otherwise.
func (g ground) wantAll(t *testing.T, a, b impl.Sym, r impl.Range) {
	t.Helper()
	g.wantSharpen(t)
	g.wantSpan(t, a, b)
	g.wantRead(t, a, b)
	g.wantWrite(t, a, r)
	g.wantWeak(t, a, b, r)
}

// textGround: of the five symbols, from texts.
func textGround(t *testing.T, row, facts string) ground {
	t.Helper()
	return groundOf(segSize, segLen, seg(t, row), known(t, facts))
}

func TestSegSharpen(t *testing.T) {
	two := "{0} 1..1 ? {i} 2..2 {len(a)}"
	for _, one := range []struct{ row, facts, want string }{
		// Maybe becomes false by 1, and stays by 0 and by less.
		{two, "i >= 1", "{0} 1..1 {i} 2..2 {len(a)}"},
		{two, "i >= 0", two},
		{two, "i >= -1", two},
		{two, "i >= 7", "{0} 1..1 {i} 2..2 {len(a)}"},
		{two, "i = 1", "{0} 1..1 {i} 2..2 {len(a)}"},
		{two, "", two},
		{two, "j >= 1", two},
		{two, "j >= 1, i - j >= 0", "{0} 1..1 {i} 2..2 {len(a)}"},
		{two, "j >= 1, len(b) - j >= 2, i - len(b) >= -2", "{0} 1..1 {i} 2..2 {len(a)}"},
		{two, "j >= 1, len(b) - j >= 2, i - len(b) >= -3", two},
		{"{0} 1..1 {i} 2..2 ? {len(a)}", "i - len(a) <= -1", "{0} 1..1 {i} 2..2 {len(a)}"},
		{"{0} 1..1 {i} 2..2 ? {len(a)}", "i - len(a) <= 0", "{0} 1..1 {i} 2..2 ? {len(a)}"},
		{"{0} none or unwritten ? {i} 2..2 ? {len(a)}", "i >= 1, i - len(a) <= -5", "{0} none or unwritten {i} 2..2 {len(a)}"},
		// Some term of the first, some of the second.
		{"{0, j} 1..1 ? {i} 2..2 {len(a)}", "j - i <= -1", "{0, j} 1..1 {i} 2..2 {len(a)}"},
		{"{0, 3, j} 1..1 ? {i} 2..2 {len(a)}", "i >= 4", "{0, 3, j} 1..1 {i} 2..2 {len(a)}"},
		{"{0} 1..1 ? {i, j, len(b)} 2..2 {len(a)}", "j >= 1", "{0} 1..1 {i, j, len(b)} 2..2 {len(a)}"},
		{"{0} 1..1 ? {i, j, len(b)} 2..2 {len(a)}", "len(b) >= 1", "{0} 1..1 {i, j, len(b)} 2..2 {len(a)}"},
		{"{0, i - 1} 1..1 ? {i} 2..2 {len(a)}", "", "{0, i - 1} 1..1 {i} 2..2 {len(a)}"},
		{"{0} 1..1 ? {1} 2..2 ? {2} 3..3 ? {len(a)}", "", "{0} 1..1 {1} 2..2 {2} 3..3 ? {len(a)}"},
		{"{0, i + 4} 1..1 ? {j - 2} 2..2 {len(a)}", "i - j <= -7", "{0, i + 4} 1..1 {j - 2} 2..2 {len(a)}"},
		{"{0, i + 4} 1..1 ? {j - 2} 2..2 {len(a)}", "i - j <= -6", "{0, i + 4} 1..1 ? {j - 2} 2..2 {len(a)}"},
		// Only those that are beside one another.
		{"{0} 1..1 ? {i} 2..2 ? {j} 3..3 {len(a)}", "j >= 5", "{0} 1..1 ? {i} 2..2 ? {j} 3..3 {len(a)}"},
		// No cell, Maybe.
		{"{0} none ? {i} 2..2 {len(a)}", "", "{0, i} 2..2 {len(a)}"},
		{"{0} 1..1 {i} none ? {len(a)}", "", "{0} 1..1 {i, len(a)}"},
		{"{0} none ? {len(a)}", "", "{0, len(a)}"},
		{"{0} none {i} 2..2 {len(a)}", "", "{0} none {i} 2..2 {len(a)}"},
		{"{0} none ? {i} 2..2 {len(a)}", "i >= 1", "{0} none {i} 2..2 {len(a)}"},
		{"{0} none ? {i} 2..2 {len(a)}", "i >= 0", "{0, i} 2..2 {len(a)}"},
		{"{0} none or unwritten ? {i} 2..2 {len(a)}", "", "{0} none or unwritten ? {i} 2..2 {len(a)}"},
		{"{0} 0..0 ? {i} 2..2 {len(a)}", "", "{0} 0..0 ? {i} 2..2 {len(a)}"},
		// A term of the second is below one of the first by 0, and by less.
		{two, "i <= 0", "{0, i} 2..2 {len(a)}"},
		{two, "i <= 1", two},
		{two, "i <= -3", "{0, i} 2..2 {len(a)}"},
		{two, "i = 0", "{0, i} 2..2 {len(a)}"},
		{two, "j <= 2, i - j <= -2", "{0, i} 2..2 {len(a)}"},
		{two, "j <= 2, i - j <= -1", two},
		{"{0} 1..1 {i} 2..2 ? {len(a)}", "len(a) - i <= 0", "{0} 1..1 {i, len(a)}"},
		{"{0} 1..1 {i} 2..2 ? {len(a)}", "len(a) - i <= 1", "{0} 1..1 {i} 2..2 ? {len(a)}"},
		{"{0} 1..1 ? {len(a)}", "len(a) <= 0", "{0, len(a)}"},
		{"{0} none or unwritten ? {len(a)}", "len(a) <= 0", "{0, len(a)}"},
		{"{0, j} 1..1 ? {i} 2..2 {len(a)}", "i - j <= 0", "{0, i, j} 2..2 {len(a)}"},
		{"{0} 1..1 ? {i, j} 2..2 {len(a)}", "j <= 0", "{0, i, j} 2..2 {len(a)}"},
		{"{0, i + 4} 1..1 ? {j - 2} 2..2 {len(a)}", "j - i <= 6", "{0, i + 4, j - 2} 2..2 {len(a)}"},
		{"{0, i + 4} 1..1 ? {j - 2} 2..2 {len(a)}", "j - i <= 7", "{0, i + 4} 1..1 ? {j - 2} 2..2 {len(a)}"},
		{"{0} 1..1 ? {5} 2..2 ? {3} 9..9 {len(a)}", "", "{0} 1..1 {3, 5} 9..9 {len(a)}"},
		// Not where it is not Maybe.
		{"{0} 1..1 {i} 2..2 {len(a)}", "i <= 0", "{0} 1..1 {i} 2..2 {len(a)}"},
		{"{0} 1..1 {i} 2..2 {len(a)}", "i = 0", "{0} 1..1 {i} 2..2 {len(a)}"},
		{"{0} 1..1 {i} none {len(a)}", "len(a) - i <= 0", "{0} 1..1 {i} none {len(a)}"},
		// By 1 one way, and by 0 the other way, with other terms.
		{"{0} 1..1 ? {i, j} 2..2 {len(a)}", "i >= 1, j <= 0", "{0} 1..1 {i, j} 2..2 {len(a)}"},
		// Three and more that become one.
		{"{0} none ? {i} none ? {j} none ? {len(a)}", "", "{0, i, j, len(a)}"},
		{"{0} none ? {i} none ? {j} 3..3 {len(a)}", "", "{0, i, j} 3..3 {len(a)}"},
		{"{0} 1..1 {i} none ? {j} none ? {7} 3..3 {len(a)}", "", "{0} 1..1 {7, i, j} 3..3 {len(a)}"},
		{"{0} 1..1 ? {i} 2..2 ? {j} 3..3 ? {len(a)}", "len(a) <= 0, i <= 0, j <= 0", "{0, i, j, len(a)}"},
		{"{0} 1..1 ? {i} 2..2 ? {j} 3..3 ? {len(a)}", "i <= 0, j - i <= 0, len(a) - j <= 0", "{0, i, j, len(a)}"},
		{"{0} none ? {i} 2..2 ? {j} 3..3 {len(a)}", "j - i <= 0", "{0, i, j} 3..3 {len(a)}"},
		// A term of the third is below one of the first, which came to the second.
		{"{0} none ? {i} 2..2 ? {j} 3..3 {len(a)}", "j <= 0", "{0, i, j} 3..3 {len(a)}"},
		{"{0} 1..1 ? {i} 2..2 ? {j} 3..3 {len(a)}", "j <= 0", "{0} 1..1 ? {i} 2..2 ? {j} 3..3 {len(a)}"},
		{"{0} 1..1 ? {i} 2..2 ? {j} 3..3 {len(a)}", "i <= 0, j <= 0", "{0, i, j} 3..3 {len(a)}"},
		// Between the ones that came together all goes on as it was, Maybe too.
		{"{0} 1..1 ? {i} none ? {j} 3..3 ? {len(a)}", "j >= 1", "{0} 1..1 ? {i, j} 3..3 ? {len(a)}"},
		{"{0} none ? {i} 2..2 ? {j} 3..3 {len(a)}", "j >= 1", "{0, i} 2..2 ? {j} 3..3 {len(a)}"},
		{"{0} none ? {i} 1..1 {j} none ? {3} 3..3 ? {len(a)}", "", "{0, i} 1..1 {3, j} 3..3 ? {len(a)}"},
		// One bound.
		{"{0, len(a)}", "", "{0, len(a)}"},
		{"{0, i, j - 3, len(a)}", "i <= 0, len(a) >= 5", "{0, i, j - 3, len(a)}"},
	} {
		wantMovedText(t, one.row+" by "+one.facts, textGround(t, one.row, one.facts).wantSharpen(t), one.want)
	}
}

// By facts that say nothing only those change that say it of themselves.
func TestSharpenedByNothing(t *testing.T) {
	for _, s := range okRows(t) {
		g := groundOf(segSize, segLen, s, impl.FactsTop(segSize))
		sharp := g.wantSharpen(t)
		if again := groundOf(segSize, segLen, sharp, g.f).wantSharpen(t); len(again.Bounds) > len(sharp.Bounds) {
			t.Fatalf("%v, and again %v", sharp, again)
		}
	}
	row := "{0} 1..1 ? {i} 2..2 or unwritten {j} none ? {len(b)} 5..5 ? {len(a)}"
	wantMovedText(t, row, textGround(t, row, "").wantSharpen(t), "{0} 1..1 ? {i} 2..2 or unwritten {j, len(b)} 5..5 ? {len(a)}")
	// Sixteen bounds that become one, with forty terms.
	many := changed(plainRow(16, 2), func(s *impl.Seg) {
		for at := range s.Vals {
			s.Vals[at], s.Maybe[at] = noCell(), true
			s.Bounds[at+1] = []impl.Sym{sym(1, 15-at), sym(2, 15-at)}
		}
		s.Bounds[15] = []impl.Sym{sym(1, -1000), sym(2, -1000), sym(3, 0), sym(3, 1), sym(3, 2), sym(4, -5), sym(4, 0), sym(4, 1), sym(4, 3), sym(4, 4)}
	})
	if sharp := groundOf(segSize, segLen, many, impl.FactsTop(segSize)).wantSharpen(t); len(sharp.Bounds) != 1 || len(sharp.Bounds[0]) != 40 {
		t.Fatal(sharp)
	}
}

func TestSegSpan(t *testing.T) {
	nums := "{0} 1..1 {3} 2..2 {7} 3..3 {9} 4..4 {len(a)}"
	syms := "{0} 1..1 ? {i} 2..2 ? {j} 3..3 ? {len(b)} 4..4 ? {len(a)}"
	for _, one := range []struct {
		row, facts, a, b string
		from, to         int
	}{
		{"{0, len(a)}", "", "0", "0", 0, 0},
		{"{0, i, len(a)}", "i >= 3", "i", "7", 0, 0},
		{"{0} 1..1 {len(a)}", "", "0", "0", 0, 1},
		{"{0} 1..1 {len(a)}", "len(a) >= 1", "0", "0", 0, 1},
		{"{0} 1..1 {len(a)}", "", "i", "j", 0, 1},
		// Just at a bound, one before it and one behind it.
		{nums, "", "0", "0", 0, 1}, {nums, "", "1", "1", 0, 1}, {nums, "", "2", "2", 0, 1}, {nums, "", "3", "3", 1, 2}, {nums, "", "4", "4", 1, 2}, {nums, "", "5", "5", 1, 2}, {nums, "", "6", "6", 1, 2}, {nums, "", "7", "7", 2, 3}, {nums, "", "8", "8", 2, 3},
		{nums, "", "9", "9", 3, 4}, {nums, "", "10", "10", 3, 4}, {nums, "len(a) = 11", "11", "11", 3, 4}, {nums, "", "-1", "-1", 0, 1}, {nums, "", "-2000000", "-2000000", 0, 1}, {nums, "", "2000000", "2000000", 3, 4},
		{syms, "j - i >= 0, len(b) - j >= 0, len(a) - len(b) >= 0, i >= 0", "j", "j", 2, 4},
		{syms, "j - i >= 0, len(b) - j >= 1, len(a) - len(b) >= 0, i >= 0", "j", "j", 2, 3},
		{syms, "j - i >= 0, len(b) - j >= 1, len(a) - len(b) >= 0, i >= 0", "j - 1", "j - 1", 0, 2},
		{syms, "j - i >= 1, len(b) - j >= 1, len(a) - len(b) >= 0, i >= 0", "j - 1", "j - 1", 1, 2},
		{syms, "j - i >= 1, len(b) - j >= 1, len(a) - len(b) >= 0, i >= 0", "j + 1", "j + 1", 2, 4},
		{syms, "j - i >= 1, len(b) - j >= 2, len(a) - len(b) >= 0, i >= 0", "j + 1", "j + 1", 2, 3},
		{syms, "i = 4", "4", "4", 1, 4}, {syms, "i = 4", "3", "3", 0, 1}, {syms, "i = 4", "5", "5", 1, 4}, {syms, "i >= 4", "4", "4", 0, 4}, {syms, "i <= 4", "4", "4", 1, 4}, {syms, "i <= 4", "3", "3", 0, 4}, {syms, "i >= 4", "3", "3", 0, 1},
		// From is never the last bound.
		{nums, "len(a) >= 12", "len(a)", "len(a)", 3, 4}, {nums, "", "len(a)", "len(a)", 0, 4}, {syms, "", "len(a)", "len(a)", 0, 4}, {"{0} 1..1 {len(a)}", "", "len(a)", "len(a)", 0, 1}, {"{0} 1..1 {i, len(a)}", "i <= 5", "7", "7", 0, 1}, {"{0} 1..1 {j} 2..2 {i, len(a)}", "i <= 5", "7", "7", 0, 2},
		// The greatest that would do, and the least above it.
		{syms, "i <= 5, j <= 5, len(b) <= 5", "5", "5", 3, 4}, {syms, "i <= 5, j <= 5", "5", "5", 2, 4}, {syms, "j <= 5", "5", "5", 2, 4}, {syms, "i <= 5, len(b) <= 5", "5", "5", 3, 4}, {syms, "i <= 5, j <= 6, len(b) <= 5", "5", "5", 3, 4},
		{syms, "i >= 6, j >= 6, len(b) >= 6", "5", "5", 0, 1}, {syms, "j >= 6, len(b) >= 6", "5", "5", 0, 2}, {syms, "len(b) >= 6", "5", "5", 0, 3}, {syms, "i >= 6, len(b) >= 6", "5", "5", 0, 1}, {syms, "len(a) >= 6", "5", "5", 0, 4},
		{syms, "i <= 5, j <= 5, len(b) >= 6, len(a) >= 9", "5", "5", 2, 3}, {syms, "i >= 6, j <= 5, len(b) >= 6", "5", "5", 2, 3}, {syms, "i >= 6, j <= 5", "5", "5", 2, 4},
		// Some term of a bound.
		{"{0} 1..1 {i, j} 2..2 {len(b), len(b) + 2} 3..3 {len(a)}", "j <= 5, len(b) >= 4", "5", "5", 1, 2}, {"{0} 1..1 {i, j} 2..2 {len(b), len(b) + 2} 3..3 {len(a)}", "j <= 6, len(b) >= 4", "5", "5", 0, 2}, {"{0} 1..1 {i, j} 2..2 {len(b), len(b) + 2} 3..3 {len(a)}", "i <= 5, len(b) >= 3", "5", "5", 1, 3},
		{"{0} 1..1 {i, j} 2..2 {len(a)}", "i >= 6", "5", "5", 0, 1}, {"{0} 1..1 {i, j} 2..2 {len(a)}", "j >= 6", "5", "5", 0, 1},
		// By what is closed.
		{syms, "i - len(a) <= -3, len(a) <= 8", "5", "5", 1, 4}, {syms, "i - len(a) <= -3, len(a) <= 9", "5", "5", 0, 4}, {syms, "i - len(b) >= 3, len(b) >= 3", "5", "5", 0, 1}, {syms, "i - len(b) >= 3, len(b) >= 2", "5", "5", 0, 4},
		// a and b that are other terms.
		{nums, "", "0", "8", 0, 3}, {nums, "", "0", "2", 0, 1}, {nums, "", "0", "3", 0, 2}, {nums, "", "2", "7", 0, 3}, {nums, "", "3", "6", 1, 2}, {nums, "", "4", "100", 1, 4}, {nums, "", "-5", "100", 0, 4}, {nums, "", "-5", "-2", 0, 1},
		{syms, "i >= 0, j - i >= 1, len(b) - j >= 1", "i", "j", 1, 3}, {syms, "i >= 0, j - i >= 1, len(b) - j >= 1", "i", "j - 1", 1, 2}, {syms, "i >= 0, j - i >= 1, len(b) - j >= 1", "i - 1", "j - 1", 0, 2},
		// a above b.
		{nums, "", "7", "0", 2, 3}, {nums, "", "9", "0", 3, 4}, {nums, "", "8", "3", 2, 3}, {nums, "", "100", "-100", 3, 4}, {nums, "", "3", "2", 1, 2}, {syms, "i >= 0, j - i >= 1, len(b) - j >= 1", "j", "i", 2, 3},
		// What the facts do not reach.
		{syms, "", "5", "5", 0, 4}, {syms, "", "0", "0", 0, 4}, {syms, "", "i", "i", 1, 4}, {syms, "", "i", "j", 1, 4}, {syms, "", "j", "i", 2, 4}, {"{0} 1..1 {j} 2..2 {len(a)}", "", "i", "i", 0, 2}, {"{0} 1..1 {j} 2..2 {len(a)}", "i >= 0, i - len(a) <= -1", "i", "i", 0, 2},
		// Bounds that say themselves where they are.
		{"{0, i} 1..1 {i + 1} 2..2 {i + 2} 3..3 {len(a)}", "", "i", "i", 0, 1}, {"{0, i} 1..1 {i + 1} 2..2 {i + 2} 3..3 {len(a)}", "", "i + 1", "i + 1", 1, 2}, {"{0, i} 1..1 {i + 1} 2..2 {i + 2} 3..3 {len(a)}", "", "i + 5", "i + 5", 2, 3}, {"{0, i} 1..1 {i + 1} 2..2 {i + 2} 3..3 {len(a)}", "", "i - 1", "i - 1", 0, 1},
		{"{0, i} 1..1 {i + 1} 2..2 {i + 2} 3..3 {len(a)}", "", "i", "i + 1", 0, 2}, {"{0} 1..1 {len(a) - 1} 2..2 {len(a)}", "", "len(a) - 1", "len(a) - 1", 1, 2}, {"{0} 1..1 {len(a) - 1} 2..2 {len(a)}", "", "len(a) - 2", "len(a) - 2", 0, 1},
	} {
		from, to := textGround(t, one.row, one.facts).wantSpan(t, oneTerm(t, one.a), oneTerm(t, one.b))
		if from != one.from || to != one.to {
			t.Fatalf("%v: %d and %d", one, from, to)
		}
	}
}

func TestSegRead(t *testing.T) {
	row := "{0} 1..1 {3} 2..2 or unwritten {7} 5..6 ? {9} none or unwritten {12} none ? {len(a)}"
	for _, one := range []struct{ row, facts, a, b, want string }{
		// One bound: no cell.
		{"{0, len(a)}", "", "0", "0", "none"}, {"{0, i, len(a)}", "i >= 1", "i", "len(a)", "none"},
		// One segment.
		{"{0} 1..5 {len(a)}", "", "0", "0", "1..5"}, {"{0} 1..5 or unwritten ? {len(a)}", "", "i", "j", "1..5 or unwritten"}, {"{0} none or unwritten {len(a)}", "", "0", "0", "none or unwritten"}, {"{0} none ? {len(a)}", "", "0", "0", "none"}, {"{0} none {len(a)}", "", "0", "0", "none"},
		{row, "", "0", "0", "1..1"}, {row, "", "2", "2", "1..1"}, {row, "", "3", "3", "2..2 or unwritten"}, {row, "", "6", "6", "2..2 or unwritten"}, {row, "", "7", "8", "5..6"}, {row, "", "9", "9", "none or unwritten"}, {row, "", "12", "12", "none"}, {row, "", "14", "14", "none"},
		// Several that are joined.
		{row, "", "0", "3", "1..2 or unwritten"}, {row, "", "2", "7", "1..6 or unwritten"}, {row, "", "3", "7", "2..6 or unwritten"}, {row, "", "7", "9", "5..6 or unwritten"}, {row, "", "9", "12", "none or unwritten"}, {row, "", "0", "100", "1..6 or unwritten"},
		{"{0} 1..1 {3} 5..5 {7} none or unwritten {len(a)}", "", "0", "6", "1..5"}, {"{0} 9..9 {3} -5..-5 {7} 1..1 ? {len(a)}", "", "2", "i", "-5..9"}, {"{0} 1..1 {3} none {7} 2..2 {len(a)}", "", "0", "5", "1..1"},
		// By facts.
		{"{0} 1..1 {i} 2..2 ? {len(a)}", "", "0", "0", "1..2"}, {"{0} 1..1 {i} 2..2 ? {len(a)}", "i >= 1", "0", "0", "1..1"}, {"{0} 1..1 {i} 2..2 ? {len(a)}", "i >= 1", "1", "1", "1..2"}, {"{0} 1..1 {i} 2..2 ? {len(a)}", "", "i", "i", "2..2"}, {"{0} 1..1 {i} 2..2 ? {len(a)}", "j - i <= -1", "j", "j", "1..1"},
		{"{0} 1..1 {i} 2..2 ? {len(a)}", "j - i >= 0", "j", "j", "2..2"}, {"{0} 1..1 {i} 2..2 ? {len(a)}", "j - i >= -1", "j", "j", "1..2"}, {"{0, i} 7..7 {i + 1} none or unwritten ? {len(a)}", "", "i", "i", "7..7"}, {"{0, i} 7..7 {i + 1} none or unwritten ? {len(a)}", "", "i + 1", "i + 1", "none or unwritten"},
		// a above b: what is behind a.
		{row, "", "7", "0", "5..6"}, {row, "", "3", "-3", "2..2 or unwritten"},
	} {
		if text := impl.ValText(textGround(t, one.row, one.facts).wantRead(t, oneTerm(t, one.a), oneTerm(t, one.b))); text != one.want {
			t.Fatalf("%v: %s", one, text)
		}
	}
}

func TestSegWeak(t *testing.T) {
	row := "{0} 1..1 {3} 2..2 or unwritten {7} 5..6 ? {9} none or unwritten {12} none ? {len(a)}"
	for _, one := range []struct {
		row, facts, a, b string
		r                impl.Range
		want             string
	}{
		// One bound.
		{"{0, len(a)}", "", "0", "0", span(7, 7), "{0, len(a)}"},
		{"{0, i, len(a), len(b) + 5}", "i >= 0", "i", "j", span(7, 7), "{0, i, len(a), len(b) + 5}"},
		// One segment; Sure and Maybe stay as they are.
		{"{0} 1..1 {len(a)}", "", "0", "0", span(7, 8), "{0} 1..8 {len(a)}"},
		{"{0} 1..1 ? {len(a)}", "", "0", "0", span(-7, 0), "{0} -7..1 ? {len(a)}"},
		{"{0} 1..1 or unwritten {len(a)}", "", "i", "i", span(7, 7), "{0} 1..7 or unwritten {len(a)}"},
		{"{0} none or unwritten ? {len(a)}", "", "i", "i", span(7, 7), "{0} 7..7 or unwritten ? {len(a)}"},
		{"{0} none ? {len(a)}", "", "i", "i", span(7, 7), "{0} 7..7 ? {len(a)}"},
		{"{0} 1..9 {len(a)}", "", "i", "i", span(3, 4), "{0} 1..9 {len(a)}"},
		{"{0} 1..9 {len(a)}", "", "i", "i", span(-bound, bound), "{0} -1000000..1000000 {len(a)}"},
		{row, "", "0", "0", span(4, 4), "{0} 1..4 {3} 2..2 or unwritten {7} 5..6 ? {9} none or unwritten {12} none ? {len(a)}"},
		{row, "", "3", "6", span(4, 4), "{0} 1..1 {3} 2..4 or unwritten {7} 5..6 ? {9} none or unwritten {12} none ? {len(a)}"},
		{row, "", "7", "7", span(4, 4), "{0} 1..1 {3} 2..2 or unwritten {7} 4..6 ? {9} none or unwritten {12} none ? {len(a)}"},
		{row, "", "9", "9", span(4, 4), "{0} 1..1 {3} 2..2 or unwritten {7} 5..6 ? {9} 4..4 or unwritten {12} none ? {len(a)}"},
		{row, "", "12", "12", span(4, 4), "{0} 1..1 {3} 2..2 or unwritten {7} 5..6 ? {9} none or unwritten {12} 4..4 ? {len(a)}"},
		// Several.
		{row, "", "0", "3", span(4, 4), "{0} 1..4 {3} 2..4 or unwritten {7} 5..6 ? {9} none or unwritten {12} none ? {len(a)}"},
		{row, "", "3", "9", span(4, 4), "{0} 1..1 {3} 2..4 or unwritten {7} 4..6 ? {9} 4..4 or unwritten {12} none ? {len(a)}"},
		{row, "", "-1", "100", span(4, 4), "{0} 1..4 {3} 2..4 or unwritten {7} 4..6 ? {9} 4..4 or unwritten {12} 4..4 ? {len(a)}"},
		{"{0} 1..1 {i} 2..2 ? {j} 3..3 {len(a)}", "", "0", "0", span(9, 9), "{0} 1..9 {i} 2..9 ? {j} 3..9 {len(a)}"},
		{"{0} 1..1 {i} 2..2 ? {j} 3..3 {len(a)}", "i >= 1", "0", "0", span(9, 9), "{0} 1..9 {i} 2..2 ? {j} 3..3 {len(a)}"},
		{"{0} 1..1 {i} 2..2 ? {j} 3..3 {len(a)}", "j - i >= 1", "i", "i", span(9, 9), "{0} 1..1 {i} 2..9 ? {j} 3..3 {len(a)}"},
		{"{0} 1..1 {i} 2..2 ? {j} 3..3 {len(a)}", "j - i >= 1", "i", "j", span(9, 9), "{0} 1..1 {i} 2..9 ? {j} 3..9 {len(a)}"},
		{"{0} 1..1 {i} 2..2 ? {j} 3..3 {len(a)}", "j - i >= 1", "j", "i", span(9, 9), "{0} 1..1 {i} 2..2 ? {j} 3..9 {len(a)}"},
	} {
		got := textGround(t, one.row, one.facts).wantWeak(t, oneTerm(t, one.a), oneTerm(t, one.b), one.r)
		wantMovedText(t, one.row+" by "+one.facts+" at "+one.a+" to "+one.b, got, one.want)
	}
}

func TestSegWrite(t *testing.T) {
	row := "{0} 1..1 {i} 2..2 ? {len(a)}"
	place := ", j >= 0, j - len(a) <= -1"
	for _, one := range []struct{ row, facts, x, want string }{
		// x in a bound, and next beside one.
		{row, "i >= 0, i - len(a) <= -1", "i", "{0} 1..1 {i} 7..7 {i + 1} 2..2 ? {len(a)}"},
		{row, "i >= 0, i - len(a) <= -2", "i", "{0} 1..1 {i} 7..7 {i + 1} 2..2 {len(a)}"},
		{row, "i >= 0, i - len(a) = -1", "i", "{0} 1..1 {i} 7..7 {i + 1, len(a)}"},
		{"{0, i} none or unwritten ? {len(a)}", "i >= 0, i - len(a) <= -1", "i", "{0, i} 7..7 {i + 1} none or unwritten ? {len(a)}"},
		// next in a bound, and x beside one.
		{row, "i >= 1", "i - 1", "{0} 1..1 ? {i - 1} 7..7 {i} 2..2 ? {len(a)}"},
		{row, "i >= 2", "i - 1", "{0} 1..1 {i - 1} 7..7 {i} 2..2 ? {len(a)}"},
		{row, "i = 1", "i - 1", "{0, i - 1} 7..7 {i} 2..2 ? {len(a)}"},
		{row, "i <= 1", "i - 1", "{0, i - 1} 7..7 {i} 2..2 ? {len(a)}"},
		// Both in bounds, and no bound is new.
		{"{0} 1..1 {i} 2..2 ? {i + 1} 3..3 ? {len(a)}", "", "i", "{0} 1..1 {i} 7..7 {i + 1} 3..3 ? {len(a)}"},
		{"{0} 1..1 {i} 2..2 or unwritten {i + 1, len(a)}", "", "i", "{0} 1..1 {i} 7..7 {i + 1, len(a)}"},
		{"{0, i} 1..1 {i + 1} 2..2 {i + 2} 3..3 {len(a)}", "", "i + 1", "{0, i} 1..1 {i + 1} 7..7 {i + 2} 3..3 {len(a)}"},
		// Both new.
		{row, "j >= 0, j - i <= -1", "j", "{0} 1..1 ? {j} 7..7 {j + 1} 1..1 ? {i} 2..2 ? {len(a)}"},
		{row, "j >= 1, j - i <= -1", "j", "{0} 1..1 {j} 7..7 {j + 1} 1..1 ? {i} 2..2 ? {len(a)}"},
		{row, "j >= 0, j - i <= -2", "j", "{0} 1..1 ? {j} 7..7 {j + 1} 1..1 {i} 2..2 ? {len(a)}"},
		{row, "j >= 1, j - i <= -2", "j", "{0} 1..1 {j} 7..7 {j + 1} 1..1 {i} 2..2 ? {len(a)}"},
		{row, "j - i >= 0, j - len(a) <= -1", "j", "{0} 1..1 {i} 2..2 ? {j} 7..7 {j + 1} 2..2 ? {len(a)}"},
		{row, "j - i >= 1, j - len(a) <= -2", "j", "{0} 1..1 {i} 2..2 {j} 7..7 {j + 1} 2..2 {len(a)}"},
		// One of them new, by the facts.
		{row, "j = 0, i >= 1", "j", "{0, j} 7..7 {j + 1} 1..1 ? {i} 2..2 ? {len(a)}"},
		{row, "j <= 0, i >= 1", "j", "{0, j} 7..7 {j + 1} 1..1 ? {i} 2..2 ? {len(a)}"},
		{row, "j >= 0, j - i = -1", "j", "{0} 1..1 ? {j} 7..7 {i, j + 1} 2..2 ? {len(a)}"},
		{row, "j - i = 0, j - len(a) <= -1", "j", "{0} 1..1 {i, j} 7..7 {j + 1} 2..2 ? {len(a)}"},
		{row, "j - i >= 0, j - len(a) = -1", "j", "{0} 1..1 {i} 2..2 ? {j} 7..7 {j + 1, len(a)}"},
		// None new, by the facts.
		{row, "j = 0, i = 1", "j", "{0, j} 7..7 {i, j + 1} 2..2 ? {len(a)}"},
		{row, "j - i = 0, j - len(a) = -1", "j", "{0} 1..1 {i, j} 7..7 {j + 1, len(a)}"},
		{"{0} 1..1 {len(a)}", "len(a) = 1, j = 0", "j", "{0, j} 7..7 {j + 1, len(a)}"},
		// Several segments: what is between goes, and all that was there is joined.
		{row, "i >= 0" + place, "j", "{0} 1..2 ? {j} 7..7 {j + 1} 1..2 ? {len(a)}"},
		{"{0} 1..1 {i} 2..2 or unwritten ? {len(b)} 5..5 {len(a)}", "j >= 0, j - len(a) <= -1", "j", "{0} 1..5 or unwritten ? {j} 7..7 {j + 1} 1..5 or unwritten ? {len(a)}"},
		{"{0} 1..1 {i} 2..2 ? {len(b)} 5..5 {9} 6..6 {len(a)}", "j >= 0, j <= 8", "j", "{0} 1..5 ? {j} 7..7 {j + 1} 1..5 ? {9} 6..6 {len(a)}"},
		{"{0} 1..1 {4} 6..6 {i} 2..2 ? {len(b)} 5..5 {9} 6..6 {len(a)}", "j >= 5, j <= 7", "j", "{0} 1..1 {4} 2..6 {j} 7..7 {j + 1} 2..6 {9} 6..6 {len(a)}"},
		{"{0} none ? {i} none ? {len(a)}", "j >= 0, j - len(a) <= -1", "j", "{0} none ? {j} 7..7 {j + 1} none ? {len(a)}"},
		// Facts that do not reach x.
		{row, "", "j", "{0} 1..2 ? {j} 7..7 {j + 1} 1..2 ? {len(a)}"},
		{"{0} 1..1 {len(a)}", "", "i + 5", "{0} 1..1 ? {i + 5} 7..7 {i + 6} 1..1 ? {len(a)}"},
		// The cell at 0.
		{"{0} 1..1 {len(a)}", "", "0", "{0} 7..7 {1} 1..1 ? {len(a)}"},
		{"{0} 1..1 {len(a)}", "len(a) >= 1", "0", "{0} 7..7 {1} 1..1 ? {len(a)}"},
		{"{0} 1..1 {len(a)}", "len(a) >= 2", "0", "{0} 7..7 {1} 1..1 {len(a)}"},
		{"{0} 1..1 {len(a)}", "len(a) = 1", "0", "{0} 7..7 {1, len(a)}"},
		{"{0} 1..1 ? {1} 2..2 ? {len(a)}", "", "0", "{0} 7..7 {1} 2..2 ? {len(a)}"},
		{"{0} 1..1 ? {i} 2..2 ? {len(a)}", "i <= 0, len(a) >= 1", "0", "{0} 7..7 {1} 1..2 ? {len(a)}"},
		{"{0} 1..1 ? {i} 2..2 ? {j} 3..3 ? {len(a)}", "i <= 0, j >= 1", "0", "{0} 7..7 {1} 1..2 ? {j} 3..3 ? {len(a)}"},
		{"{0} 1..1 ? {i} 2..2 ? {j} 3..3 ? {len(a)}", "i = 0, j = 0", "0", "{0} 7..7 {1} 1..3 ? {len(a)}"},
		// To stays what it is when from becomes 0.
		{"{0} 1..1 ? {i, j} 2..2 ? {len(a)}", "i <= 0, j >= 1", "0", "{0} 7..7 {1} 1..2 ? {len(a)}"},
		// The last cell.
		{"{0} 1..1 {len(a)}", "len(a) >= 1", "len(a) - 1", "{0} 1..1 ? {len(a) - 1} 7..7 {len(a)}"},
		{"{0} 1..1 {len(a)}", "len(a) >= 2", "len(a) - 1", "{0} 1..1 {len(a) - 1} 7..7 {len(a)}"},
		{"{0} 1..1 {len(a)}", "len(a) = 1", "len(a) - 1", "{0, len(a) - 1} 7..7 {len(a)}"},
		{"{0} 1..1 {len(a)}", "", "len(a) - 1", "{0} 1..1 ? {len(a) - 1} 7..7 {len(a)}"},
		{row, "i - len(a) <= 0", "len(a) - 1", "{0} 1..2 ? {len(a) - 1} 7..7 {len(a)}"},
		{row, "i - len(a) <= -1", "len(a) - 1", "{0} 1..1 {i} 2..2 ? {len(a) - 1} 7..7 {len(a)}"},
		{row, "i - len(a) = -1", "len(a) - 1", "{0} 1..1 {i, len(a) - 1} 7..7 {len(a)}"},
		{row, "i - len(a) >= 0, len(a) >= 1", "len(a) - 1", "{0} 1..2 ? {len(a) - 1} 7..7 {len(a)}"},
		{"{0} 1..1 {i} 2..2 ? {j} 3..3 ? {len(a)}", "i - len(a) <= -1, j - len(a) >= 0", "len(a) - 1", "{0} 1..1 {i} 2..3 ? {len(a) - 1} 7..7 {len(a)}"},
		{"{0} 1..1 {len(a) - 1} 2..2 ? {len(a), len(a) + 2}", "", "len(a) - 1", "{0} 1..1 {len(a) - 1} 7..7 {len(a), len(a) + 2}"},
		// Behind the end, and ahead of the beginning: weak.
		{row, "", "len(a)", "{0} 1..7 {i} 2..7 ? {len(a)}"},
		{row, "i - len(a) <= 0", "len(a)", "{0} 1..1 {i} 2..7 ? {len(a)}"},
		{row, "", "-1", "{0} 1..7 {i} 2..7 ? {len(a)}"},
		{row, "i >= 0", "-1", "{0} 1..7 {i} 2..2 ? {len(a)}"},
		// Further away: no place either, but bounds as any.
		{row, "i >= 0, len(a) >= 5", "-2", "{-2, 0} 7..7 {-1} 1..1 {i} 2..2 ? {len(a)}"},
		{row, "i - len(a) <= 0", "len(a) + 1", "{0} 1..1 {i} 2..2 {len(a) + 1} 7..7 {len(a), len(a) + 2}"},
		// One bound: weak.
		{"{0, len(a)}", "", "0", "{0, len(a)}"},
		{"{0, i, len(a)}", "i >= 0, i - len(a) <= -1", "i", "{0, i, len(a)}"},
		{"{0, len(a)}", "len(a) >= 3", "len(a) - 1", "{0, len(a)}"},
		// x stands in another bound: with others, and alone.
		{"{0} 1..1 ? {5, j} 2..2 ? {i} 3..3 ? {len(a)}", "i - j <= 0" + place, "j", "{0} 1..1 ? {5} 2..2 ? {i} 3..3 ? {j} 7..7 {j + 1} 3..3 ? {len(a)}"},
		{"{0} 1..1 ? {j} 2..2 ? {i} 3..3 ? {len(a)}", "i - j <= 0" + place, "j", "{0} 1..2 ? {i} 3..3 ? {j} 7..7 {j + 1} 3..3 ? {len(a)}"},
		{"{0} 1..1 {j} 2..2 or unwritten ? {i} 3..3 ? {len(a)}", "i - j <= 0" + place, "j", "{0} 1..2 or unwritten {i} 3..3 ? {j} 7..7 {j + 1} 3..3 ? {len(a)}"},
		{"{0} 1..1 ? {j} 2..2 {i} 3..3 ? {len(a)}", "i - j <= -1" + place, "j", "{0} 1..2 {i} 3..3 {j} 7..7 {j + 1} 3..3 ? {len(a)}"},
		{"{0} 1..1 ? {j} 2..2 ? {i} 3..3 ? {len(a)}", "i - j = 0" + place, "j", "{0} 1..2 ? {i, j} 7..7 {j + 1} 3..3 ? {len(a)}"},
		{"{0, j} 1..1 ? {i} 3..3 ? {len(a)}", "i - j <= 0" + place, "j", "{0} 1..1 ? {i} 3..3 ? {j} 7..7 {j + 1} 3..3 ? {len(a)}"},
		{"{0} 1..1 {j, len(a)}", "", "j", "{0} 1..1 ? {j} 7..7 {j + 1, len(a)}"},
		{"{0} 1..1 {j, len(a)}", "j >= 1", "j", "{0} 1..1 {j} 7..7 {j + 1, len(a)}"},
		// next stands in another bound: with others, and alone.
		{"{0, i} 1..1 ? {j} 2..2 ? {9, i + 1} 3..3 ? {len(a)}", "j - i >= 1", "i", "{0, i} 7..7 {i + 1} 1..1 ? {j} 2..2 ? {9} 3..3 ? {len(a)}"},
		{"{0, i} 1..1 ? {j} 2..2 ? {i + 1} 3..3 ? {len(a)}", "j - i >= 1", "i", "{0, i} 7..7 {i + 1} 1..1 ? {j} 2..3 ? {len(a)}"},
		{"{0, i} 1..1 ? {j} 2..2 {i + 1} 3..3 or unwritten ? {len(a)}", "j - i >= 1", "i", "{0, i} 7..7 {i + 1} 1..1 ? {j} 2..3 or unwritten {len(a)}"},
		{"{0, i} 1..1 ? {j} 2..2 ? {i + 1} 3..3 ? {len(a)}", "j - i = 1", "i", "{0, i} 7..7 {i + 1, j} 2..3 ? {len(a)}"},
		{"{0, i} 1..1 ? {j} 2..2 ? {i + 1, len(a)}", "j - i >= 1", "i", "{0, i} 7..7 {i + 1} 1..1 ? {j} 2..2 ? {len(a)}"},
		{"{0} 1..1 ? {i + 1} 2..2 ? {j} 3..3 ? {len(a)}", "j - i <= 0", "i", "{0} 1..2 ? {j} 3..3 ? {i} 7..7 {i + 1} 3..3 ? {len(a)}"},
		{"{0, i + 1} 1..1 {len(a)}", "", "i", "{0, i} 7..7 {i + 1} 1..1 ? {len(a)}"},
		{"{0, i + 1} 1..1 {len(a)}", "i = 0", "i", "{0, i} 7..7 {i + 1} 1..1 ? {len(a)}"},
		// Both stand elsewhere, alone, one behind the other: the bounds go.
		{"{0} 1..1 ? {j} 2..2 ? {j + 1} 4..4 ? {i} 3..3 ? {len(a)}", "i - j <= 0" + place, "j", "{0} 1..4 ? {i} 3..3 ? {j} 7..7 {j + 1} 3..3 ? {len(a)}"},
		{"{0} 1..1 {j} 2..2 ? {i} 5..5 {j + 1} 6..6 ? {9} 3..3 ? {len(a)}", "i - j <= 0" + place, "j", "{0} 1..2 {i} 5..5 ? {j} 7..7 {j + 1} 6..6 ? {9} 3..3 ? {len(a)}"},
		// The same number by another name, which the facts do not tell.
		{"{0} 1..1 ? {i} 2..2 ? {i + 1} 3..3 ? {len(a)}", "j - i >= 0, j - i <= 1" + place, "j", "{0} 1..1 ? {i} 2..3 ? {j} 7..7 {j + 1} 2..3 ? {len(a)}"},
	} {
		got := textGround(t, one.row, one.facts).wantWrite(t, oneTerm(t, one.x), span(7, 7))
		wantMovedText(t, one.row+" by "+one.facts+" at "+one.x, got, one.want)
	}
}

// x and next just at MaxOff, and one past it, on both sides: past it the write is
// weak.
func TestWritesAtMaxOff(t *testing.T) {
	row := "{0} 1..1 {len(b)} 2..2 ? {len(a)}"
	for v := range segSize {
		for _, one := range []struct {
			c        int
			isStrong bool
		}{
			{998, true}, {999, true}, {1000, false}, {1001, false}, {5000, false}, {gap - 1, false}, {gap, false}, {-999, true}, {-1000, true}, {-1001, false}, {-1002, false}, {-5000, false}, {-gap + 1, false}, {-gap, false},
		} {
			x := sym(v, one.c)
			for _, facts := range []string{"", "i >= 0", "len(b) >= 1", "len(b) >= 1, len(a) - len(b) >= 1", "i = -999", "j = 1000", "i <= 2, len(b) >= 3"} {
				g := textGround(t, row, facts)
				got, weak := g.wantWrite(t, x, span(7, 7)), g.wantWeak(t, x, x, span(7, 7))
				if isIn := slices.Contains(allTerms(got), x) && slices.Contains(allTerms(got), sym(v, one.c+1)); isIn != one.isStrong || sameSeg(got, weak) == one.isStrong {
					t.Fatalf("%s at %v: %v", facts, x, got)
				}
			}
		}
	}
	for _, one := range []struct {
		facts string
		x     impl.Sym
		want  string
	}{
		{"i >= -999", sym(1, 999), "{0} 1..2 ? {i + 999} 7..7 {i + 1000} 1..2 ? {len(a)}"},
		{"i >= -1000, len(b) - i >= 1001", sym(1, 1000), "{0} 1..7 {len(b)} 2..2 ? {len(a)}"},
		{"i - len(b) >= -1000", sym(1, 1000), "{0} 1..1 {len(b)} 2..7 ? {len(a)}"},
		{"len(b) - i <= -1000", sym(1, -1000), "{0} 1..1 {len(b)} 2..2 ? {i - 1000} 7..7 {i - 999} 2..2 ? {len(a)}"},
		{"len(b) - i <= -1001", sym(1, -1001), "{0} 1..1 {len(b)} 2..7 ? {len(a)}"},
		{"", sym(0, 1000), "{0} 1..7 {len(b)} 2..7 ? {len(a)}"},
		{"len(b) >= 1001", sym(0, 1000), "{0} 1..7 {len(b)} 2..2 ? {len(a)}"},
		{"len(b) >= 1001", sym(0, 999), "{0} 1..1 {999} 7..7 {1000} 1..1 {len(b)} 2..2 ? {len(a)}"},
	} {
		wantMovedText(t, one.facts, textGround(t, row, one.facts).wantWrite(t, one.x, span(7, 7)), one.want)
	}
}

// spacedRow: so many bounds, {0}, {10}, {20} and so on, the last one the length;
// between them 1..1, 2..2 and so on, and so many terms of the other length in
// the first bound.
func spacedRow(bounds, others int) impl.Seg {
	var s impl.Seg
	for at := range bounds {
		s.Bounds = append(s.Bounds, []impl.Sym{sym(0, 10*at)})
		if at > 0 {
			s.Vals, s.Maybe = append(s.Vals, sure(span(at, at))), append(s.Maybe, false)
		}
	}
	s.Bounds[bounds-1] = []impl.Sym{sym(segLen, 0)}
	for num := range others {
		s.Bounds[0] = append(s.Bounds[0], sym(4, num))
	}
	return s
}

// Just MaxBounds bounds behind the write, and one more: then nothing is left but
// the two ends, x and next.
func TestCountsOfBoundsBehindWrites(t *testing.T) {
	for _, one := range []struct {
		bounds int
		facts  string
		count  int
	}{
		// Both bounds new.
		{2, "j >= 1, j - len(a) <= -2", 4}, {13, "j >= 12, j <= 17", 15}, {14, "j >= 12, j <= 17", 16}, {15, "j >= 12, j <= 17", 4}, {16, "j >= 12, j <= 17", 4},
		// One of them.
		{14, "j = 10", 15}, {15, "j = 10", 16}, {16, "j = 10", 4}, {14, "j = 19", 15}, {15, "j = 19", 16}, {16, "j = 19", 4},
		{15, "j = 0", 16}, {16, "j = 0", 3}, {15, "len(a) - j = 1, j >= 131", 16}, {16, "len(a) - j = 1, j >= 141", 3},
		// Bounds that go make room.
		{16, "j >= 12, j <= 27", 4}, {16, "j >= 12, j <= 37", 16}, {15, "j >= 12, j <= 27", 16}, {15, "j >= 0, j - len(a) <= -1", 4}, {16, "j = 10, j <= 9999", 4}, {16, "j <= 50, j >= 20", 15},
	} {
		g := groundOf(segSize, segLen, spacedRow(one.bounds, 0), known(t, one.facts))
		got := g.wantWrite(t, sym(2, 0), span(7, 7))
		if len(got.Bounds) != one.count {
			t.Fatalf("%d bounds, %s: %d behind: %v", one.bounds, one.facts, len(got.Bounds), got)
		}
	}
	g := groundOf(segSize, segLen, spacedRow(15, 0), known(t, "j >= 12, j <= 17, len(a) >= 200"))
	wantMovedText(t, "fifteen", g.wantWrite(t, sym(2, 0), span(7, 7)), "{0} 1..14 {j} 7..7 {j + 1} 1..14 {len(a)}")
	g = groundOf(segSize, segLen, spacedRow(15, 0), known(t, "j >= 0, j <= 8"))
	wantMovedText(t, "fifteen", g.wantWrite(t, sym(2, 0), span(7, 7)), "{0} 1..14 ? {j} 7..7 {j + 1} 1..14 ? {len(a)}")
	// None new: there is room for all.
	g = groundOf(segSize, segLen, spacedRow(16, 0), known(t, ""))
	whole := changed(g.s, func(s *impl.Seg) { s.Bounds[4] = []impl.Sym{sym(0, 31)} })
	want := changed(whole, func(s *impl.Seg) { s.Vals[3] = sure(span(7, 7)) })
	wantSeg(t, groundOf(segSize, segLen, whole, g.f).wantWrite(t, sym(0, 30), span(7, 7)), want)
	// x, or next, stays where it stood when all else goes.
	stands := changed(spacedRow(16, 0), func(s *impl.Seg) { s.Bounds[4] = []impl.Sym{sym(0, 40), sym(2, 0)} })
	wantMovedText(t, "x stays", groundOf(segSize, segLen, stands, known(t, "j = 40")).wantWrite(t, sym(2, 0), span(7, 7)), "{0} 1..4 {j} 7..7 {j + 1} 5..15 ? {len(a)}")
	wantMovedText(t, "next stays", groundOf(segSize, segLen, stands, known(t, "j = 40")).wantWrite(t, sym(2, -1), span(7, 7)), "{0} 1..4 {j - 1} 7..7 {j} 5..15 {len(a)}")
	wantMovedText(t, "next stays", groundOf(segSize, segLen, stands, known(t, "j >= 31")).wantWrite(t, sym(2, -1), span(7, 7)), "{0} 1..4 {j - 1} 7..7 {j} 5..15 {len(a)}")
	// Bounds of x and next alone, elsewhere, go and make room for two others.
	moves := changed(spacedRow(16, 0), func(s *impl.Seg) { s.Bounds[14], s.Bounds[13] = []impl.Sym{sym(1, -3)}, []impl.Sym{sym(2, 0)} })
	got := groundOf(segSize, segLen, moves, known(t, "i - j <= -3, len(a) - j >= 5")).wantWrite(t, sym(2, 0), span(7, 7))
	if len(got.Bounds) != 4 {
		t.Fatal(got)
	}
	moves.Bounds[12] = []impl.Sym{sym(2, 1)}
	got = groundOf(segSize, segLen, moves, known(t, "i - j <= -3, len(a) - j >= 5")).wantWrite(t, sym(2, 0), span(7, 7))
	if len(got.Bounds) != 16 || got.Bounds[13][0] != sym(2, 0) || got.Bounds[14][0] != sym(2, 1) {
		t.Fatal(got)
	}
}

// Just MaxTerms terms behind the write, and one more.
func TestCountsOfTermsBehindWrites(t *testing.T) {
	for _, one := range []struct {
		others, count int
		change        func(s *impl.Seg)
	}{
		{34, 39, nil}, {35, 40, nil}, {36, 4, nil}, {37, 4, nil},
		// One of the two stands there already, or both.
		{36, 40, func(s *impl.Seg) { s.Bounds[1] = []impl.Sym{sym(2, 0)} }},
		{37, 4, func(s *impl.Seg) { s.Bounds[1] = []impl.Sym{sym(2, 0)} }},
		{35, 40, func(s *impl.Seg) { s.Bounds[1] = append(s.Bounds[1], sym(2, 0)) }},
		{36, 4, func(s *impl.Seg) { s.Bounds[1] = append(s.Bounds[1], sym(2, 0)) }},
		{35, 40, func(s *impl.Seg) { s.Bounds[1] = append(s.Bounds[1], sym(2, 0), sym(2, 1)) }},
		{35, 40, func(s *impl.Seg) { s.Bounds[2] = append([]impl.Sym{sym(2, 0), sym(2, 1)}, s.Bounds[2]...) }},
	} {
		s := spacedRow(3, one.others)
		if one.change != nil {
			one.change(&s)
		}
		wantSegOk(t, segSize, segLen, s, true)
		g := groundOf(segSize, segLen, s, known(t, "j >= 12, len(a) - j >= 5"))
		got := g.wantWrite(t, sym(2, 0), span(7, 7))
		if len(allTerms(got)) != one.count {
			t.Fatalf("%d others: %d terms behind: %v", one.others, len(allTerms(got)), got)
		}
	}
	g := groundOf(segSize, segLen, spacedRow(3, 36), known(t, "j >= 12, len(a) - j >= 5"))
	wantMovedText(t, "one more", g.wantWrite(t, sym(2, 0), span(7, 7)), "{0} 1..2 {j} 7..7 {j + 1} 1..2 {len(a)}")
	g = groundOf(segSize, segLen, spacedRow(3, 37), known(t, "j >= 12, len(a) - j = 1"))
	wantMovedText(t, "one more", g.wantWrite(t, sym(2, 0), span(7, 7)), "{0} 1..2 {j} 7..7 {j + 1, len(a)}")
	// 0 and the last cell need one term more.
	for others, count := range map[int]int{37: 40, 38: 3} {
		g = groundOf(segSize, segLen, spacedRow(2, others), known(t, ""))
		if got := g.wantWrite(t, sym(0, 0), span(7, 7)); len(allTerms(got)) != count {
			t.Fatal(others, got)
		}
		if got := g.wantWrite(t, sym(segLen, -1), span(7, 7)); len(allTerms(got)) != count {
			t.Fatal(others, got)
		}
	}
	g = groundOf(segSize, segLen, spacedRow(2, 38), known(t, "len(a) >= 2"))
	wantMovedText(t, "one more", g.wantWrite(t, sym(0, 0), span(7, 7)), "{0} 7..7 {1} 1..1 {len(a)}")
	wantMovedText(t, "one more", g.wantWrite(t, sym(segLen, -1), span(7, 7)), "{0} 1..1 {len(a) - 1} 7..7 {len(a)}")
	// A weak one needs no room.
	wantSeg(t, g.wantWrite(t, sym(segLen, 0), span(1, 1)), g.s)
	wantSeg(t, g.wantWrite(t, sym(1, 1000), span(1, 1)), g.s)
}

// wantAny: what all five tell of any arguments: as it is told otherwise where
// they are as said, and nothing where they are not. It tells how many told
// something.
func wantAny(t *testing.T, size, l int, s impl.Seg, f impl.Facts, a, b impl.Sym, r impl.Range) int {
	t.Helper()
	isSite := isSegByPairs(size, l, s) && f.Size == size && impl.FactsOk(f) && !isNoFacts(closedByRounds(f))
	isSpan := isSite && isWide(size, a) && isWide(size, b)
	isRange := r.Lo >= -bound && r.Lo <= r.Hi && r.Hi <= bound
	g := ground{size: size, l: l, s: s, f: f}
	if isSite {
		g = groundOf(size, l, s, f)
	}
	told := 0
	ask := func(isSo bool, want func(), nothing bool) {
		t.Helper()
		switch {
		case isSo:
			want()
			told++
		case !nothing:
			t.Fatalf("%d, %d: %v, %v, %v, %v, %v tell something", size, l, s, f, a, b, r)
		}
	}
	from, to := impl.SegSpan(size, l, s, f, a, b)
	ask(isSite, func() { g.wantSharpen(t) }, isNoSeg(impl.SegSharpen(size, l, s, f)))
	ask(isSpan, func() { g.wantSpan(t, a, b) }, from == 0 && to == 0)
	ask(isSpan, func() { g.wantRead(t, a, b) }, impl.SegRead(size, l, s, f, a, b) == noCell())
	ask(isSite && isWide(size, a) && isRange, func() { g.wantWrite(t, a, r) }, isNoSeg(impl.SegWrite(size, l, s, f, a, r)))
	ask(isSpan && isRange, func() { g.wantWeak(t, a, b, r) }, isNoSeg(impl.SegWeak(size, l, s, f, a, b, r)))
	return told
}

func TestWrongPlaces(t *testing.T) {
	rows := []impl.Seg{seg(t, "{0, i} 1..1 {1, i + 1, j} 2..2 ? {len(a), len(b)}"), seg(t, "{0, len(a)}"), seg(t, "{0} 1..1 {len(a)}")}
	f, r := known(t, "i >= 0, i - len(a) <= -1"), span(7, 7)
	many := append(manyInts(), 3, 4, 5, 6)
	for _, s := range rows {
		for _, v := range many {
			for _, c := range many {
				for _, other := range []impl.Sym{sym(0, 0), sym(1, 0), sym(3, -1), sym(2, gap), sym(4, -gap)} {
					x := sym(v, c)
					for _, pair := range [][2]impl.Sym{{x, other}, {other, x}, {x, x}} {
						wantAny(t, segSize, segLen, s, f, pair[0], pair[1], r)
					}
				}
			}
		}
	}
	for _, one := range []struct {
		a, b impl.Sym
		told int
	}{
		{sym(0, gap), sym(0, 0), 5}, {sym(0, -gap), sym(0, 0), 5}, {sym(0, 0), sym(4, gap), 5}, {sym(4, -gap), sym(4, gap), 5}, {sym(4, 0), sym(0, 0), 5},
		{sym(0, gap+1), sym(0, 0), 1}, {sym(0, -gap-1), sym(0, 0), 1}, {sym(5, 0), sym(0, 0), 1}, {sym(-1, 0), sym(0, 0), 1}, {sym(0, math.MaxInt), sym(0, 0), 1}, {sym(0, math.MinInt), sym(0, 0), 1}, {sym(math.MaxInt, 0), sym(0, 0), 1}, {sym(math.MinInt, 0), sym(0, 0), 1},
		// Of the second a write does not hear.
		{sym(0, 0), sym(0, gap+1), 2}, {sym(0, 0), sym(0, -gap-1), 2}, {sym(0, 0), sym(5, 0), 2}, {sym(0, 0), sym(-1, 0), 2}, {sym(0, 0), sym(0, math.MaxInt), 2}, {sym(0, 0), sym(0, math.MinInt), 2},
	} {
		if told := wantAny(t, segSize, segLen, rows[0], f, one.a, one.b, r); told != one.told {
			t.Fatal(one, told)
		}
	}
}

func TestWrongRangesWritten(t *testing.T) {
	f := known(t, "i >= 0, i - len(a) <= -1")
	for _, s := range []impl.Seg{seg(t, "{0} 1..1 {1, i + 1, j} 2..2 ? {len(a), len(b)}"), seg(t, "{0, len(a)}"), spacedRow(16, 0), spacedRow(2, 38)} {
		for _, x := range []impl.Sym{sym(1, 0), sym(0, 0), sym(3, 0), sym(0, -1), sym(1, 1000), sym(1, gap)} {
			for _, r := range append(wrongRanges(), noRange()) {
				if told := wantAny(t, segSize, segLen, s, f, x, x, r); told != 3 {
					t.Fatalf("%v: %v: %d", s, r, told)
				}
			}
			for _, r := range []impl.Range{span(-bound, bound), span(-bound, -bound), span(bound, bound), span(0, 0)} {
				if told := wantAny(t, segSize, segLen, s, f, x, x, r); told != 5 {
					t.Fatalf("%v: %v: %d", s, r, told)
				}
			}
		}
	}
}

func TestPlacesOfWrongSegs(t *testing.T) {
	f, r := known(t, "i >= 0"), span(7, 7)
	for _, s := range wrongSegs(t) {
		wantSegOk(t, segSize, segLen, s, false)
		for _, x := range []impl.Sym{sym(0, 0), sym(1, 0), sym(3, -1), sym(3, 0), sym(0, -1), sym(1, 1000), sym(2, gap), sym(5, 0), sym(0, math.MinInt)} {
			if told := wantAny(t, segSize, segLen, s, f, x, x, r); told != 0 {
				t.Fatal(s, told)
			}
		}
	}
}

// Facts of another size, that are not ok, that are none and that close to none.
func TestPlacesByWrongFacts(t *testing.T) {
	rows := []impl.Seg{seg(t, "{0, i} 1..1 {1, i + 1, j} none ? {len(a), len(b)}"), seg(t, "{0, len(a)}"), seg(t, "{0} 1..1 {len(a)}")}
	list := append(wrongFacts(), someNones()...)
	list = append(list, mixedFacts()...)
	for size := range 15 {
		list = append(list, capsOf(size))
	}
	for i := range segSize {
		for j := range segSize {
			top := capsOf(segSize)
			list = append(list, putFact(top, i, j, capAt(i, j)+1), putFact(top, i, j, -gap-1), putFact(top, i, j, math.MaxInt), putFact(top, i, j, math.MinInt), putFact(top, i, j, -gap), putFact(putFact(top, i, j, -1), j, i, 0), putFact(putFact(top, i, j, -1), j, i, 1))
		}
	}
	told := 0
	for _, f := range list {
		for _, s := range rows {
			told += wantAny(t, segSize, segLen, s, f, sym(1, 0), sym(2, 1), span(7, 7))
		}
	}
	if told < 15*21 {
		t.Fatal(told)
	}
	two, thirteen := impl.SegTop(2, 1, sure(span(1, 1))), impl.SegTop(13, 12, sure(span(1, 1)))
	for _, f := range list {
		wantAny(t, 2, 1, two, f, sym(0, 0), sym(1, -1), span(7, 7))
		wantAny(t, 13, 12, thirteen, f, sym(0, 0), sym(12, -1), span(7, 7))
	}
}

// Size and length at either end and one past each.
func TestSizesOfPlaces(t *testing.T) {
	sizes := append(manyInts(), 3, 4, 5, 6, 7, 8, 9, 10)
	told := 0
	for _, size := range sizes {
		for _, l := range append(sizes, size-1, size, size+1) {
			one := impl.Seg{Bounds: [][]impl.Sym{{sym(0, 0), sym(l, 0)}}}
			two := impl.Seg{Bounds: [][]impl.Sym{{sym(0, 0)}, {sym(l, 0)}}, Vals: []impl.Val{sure(span(1, 2))}, Maybe: []bool{true}}
			for _, s := range []impl.Seg{one, two} {
				for _, of := range []int{1, 2, 13, 14, size} {
					if of < 20 {
						told += wantAny(t, size, l, s, capsOf(max(of, 0)), sym(0, 0), sym(l, -1), span(7, 7))
					}
				}
			}
		}
	}
	if told < 500 {
		t.Fatal(told)
	}
	// A Seg that is ok, but of another length, or with a symbol too many.
	s := seg(t, "{0, len(b)} 1..1 {i} 2..2 {len(a)}")
	for _, one := range [][2]int{{5, 4}, {5, 2}, {5, 1}, {5, 0}, {4, 3}, {3, 3}, {5, 5}} {
		if told := wantAny(t, one[0], one[1], s, capsOf(one[0]), sym(0, 0), sym(0, 0), span(7, 7)); told != 0 {
			t.Fatal(one, told)
		}
	}
	if told := wantAny(t, 6, 3, s, capsOf(6), sym(5, 0), sym(5, 3), span(7, 7)); told != 5 {
		t.Fatal(told)
	}
}

// put: the state in which a cell has another number.
func (s stateOf) put(place, num int) stateOf {
	cells := slices.Clone(s.cells)
	cells[place] = written(num)
	return stateOf{s.vals, cells}
}

// numberAt: the number of a bound in a state that a Seg has.
func numberAt(s impl.Seg, at int, state stateOf) int {
	return state.vals[s.Bounds[at][0].V] + s.Bounds[at][0].C
}

// keepsPlace: promise 12 of one state that the row and the facts have, a place in
// it, and terms: x is the place, a is not above it, b is not below it.
func (g ground) keepsPlace(t *testing.T, state stateOf, place int, a, b, x impl.Sym, r impl.Range) {
	t.Helper()
	about := func() string {
		return impl.SegText(g.size, g.l, g.s, lettersUpTo(g.size-1)) + " " + impl.FactsText(g.f, lettersUpTo(g.size-1))
	}
	for _, pair := range [][2]impl.Sym{{a, b}, {x, b}, {a, x}, {x, x}} {
		from, to := g.wantSpan(t, pair[0], pair[1])
		if low, high := numberAt(g.s, from, state), numberAt(g.s, to, state); low > place || place >= high {
			t.Fatalf("%s: %v: %d is told between %d and %d", about(), state, place, low, high)
		}
		if v := g.wantRead(t, pair[0], pair[1]); !impl.ValHas(v, state.cells[place]) {
			t.Fatalf("%s: %v: the cell at %d is told as %v", about(), state, place, v)
		}
		weak := g.wantWeak(t, pair[0], pair[1], r)
		g.wantPut(t, "weak", weak, state, place, r)
		if !impl.SegHas(g.size, g.l, weak, state.vals, state.cells) || !impl.SegLeq(g.size, g.l, g.s, weak) {
			t.Fatalf("%s: %v is lost behind a weak write", about(), state)
		}
	}
	g.wantPut(t, "strong", g.wantWrite(t, x, r), state, place, r)
}

// wantPut: behind a write a row has the states with the numbers of a range in
// the cell.
func (g ground) wantPut(t *testing.T, way string, put impl.Seg, state stateOf, place int, r impl.Range) {
	t.Helper()
	for _, num := range []int{r.Lo, r.Hi, (r.Lo + r.Hi) / 2} {
		if after := state.put(place, num); !impl.SegHas(g.size, g.l, put, after.vals, after.cells) {
			t.Fatalf("%s: %v by %v: %v has not %v", way, g.s, g.f, put, after)
		}
	}
}

// keepsSharp: a sharpened row has the state still, and is in what it was.
func (g ground) keepsSharp(t *testing.T, states []stateOf) impl.Seg {
	t.Helper()
	sharp := g.wantSharpen(t)
	for _, one := range states {
		if !impl.SegHas(g.size, g.l, sharp, one.vals, one.cells) {
			t.Fatalf("%v by %v: %v has not %v", g.s, g.f, sharp, one)
		}
	}
	if !impl.SegLeq(g.size, g.l, sharp, g.s) {
		t.Fatalf("%v is not in %v", sharp, g.s)
	}
	return sharp
}

// readsBack: promise 12: what was written at a term that is a place by the facts
// is told as just that. It tells whether the term may be asked for.
func (g ground) readsBack(t *testing.T, x impl.Sym, r impl.Range) bool {
	t.Helper()
	isPlace := isBelow(g.closed, sym(0, 0), x, 0) && isBelow(g.closed, x, sym(g.l, 0), 1)
	if !isPlace || x.C > 900 || x.C < -900 || len(g.s.Bounds) == 1 {
		return false
	}
	put := g.wantWrite(t, x, r)
	if v := impl.SegRead(g.size, g.l, put, g.f, x, x); v != sure(r) {
		t.Fatalf("%v by %v: %v at %v is told as %v in %v", g.s, g.f, r, x, v, put)
	}
	return true
}

// placeFacts: the facts with that x is a place of the array.
func placeFacts(f impl.Facts, l int, x impl.Sym) impl.Facts {
	return impl.FactsAdd(impl.FactsAdd(f, 0, x.V, x.C), x.V, l, -1-x.C)
}

// someTerm: a term of any symbol that is so much in a state.
func someTerm(next func(int) int, state stateOf, num int) impl.Sym {
	v := next(len(state.vals))
	return sym(v, num-state.vals[v])
}

// Promise 12: over many rows with many terms, near and far, facts around several
// states, and places of these.
func TestPlacesAreKept(t *testing.T) {
	next := draws(1213)
	had, narrow, strong, weak, back, sharper, folded := 0, 0, 0, 0, 0, 0, 0
	for range 3000 {
		size := 3 + next(7)
		l := 1 + next(size-1)
		first := farState(next, size, l)
		s := someRowAround(next, l, first)
		if v := 1 + next(size-1); v != l && len(termsWith(s, v)) == 0 {
			first.vals[v] = []int{-bound, bound, 1500, -1001}[next(4)]
		}
		states := []stateOf{first}
		for range 30 {
			if other := states[next(len(states))].near(next, l); impl.SegHas(size, l, s, other.vals, other.cells) && len(states) < 4 {
				states = append(states, other)
			}
		}
		var rows [][]int
		for _, one := range states {
			rows = append(rows, one.vals)
		}
		g := groundOf(size, l, s, factsAround(next, size, rows...))
		sharp := g.keepsSharp(t, states)
		folded += len(s.Bounds) - len(sharp.Bounds)
		if len(sharp.Bounds) == len(s.Bounds) && !sameSeg(sharp, s) {
			sharper++
		}
		if next(2) == 0 {
			g.s = sharp
		}
		for _, one := range states {
			wantHas(t, g.f, one.vals, "facts around states")
			if len(one.cells) == 0 {
				continue
			}
			place, low := next(len(one.cells)), next(9)-4
			x := someTerm(next, one, place)
			a, b := someTerm(next, one, place-next(4)), someTerm(next, one, place+next(4))
			r := span(low, low+next(3))
			g.keepsPlace(t, one, place, a, b, x, r)
			had++
			if from, to := g.wantSpan(t, x, x); to == from+1 {
				narrow++
			}
			if put := impl.SegWrite(size, l, g.s, g.f, x, r); slices.Contains(allTerms(put), x) {
				strong++
			} else {
				weak++
			}
			h := groundOf(size, l, g.s, placeFacts(g.f, l, x))
			h.keepsPlace(t, one, place, a, b, x, r)
			if h.readsBack(t, x, r) {
				back++
			}
		}
	}
	if had < 5000 || narrow < 3000 || strong < 4500 || weak < 150 || back < 4500 || sharper < 200 || folded < 1000 {
		t.Fatalf("%d states were had, %d told by one segment, %d written strongly, %d weakly, %d read back, %d rows sharper, %d bounds folded", had, narrow, strong, weak, back, sharper, folded)
	}
}

// Promise 12: of all small rows, in all small states, by several facts.
func TestSmallRowsAtPlaces(t *testing.T) {
	var states []stateOf
	for _, list := range cellRows(cellsOver([]int{1}), 3) {
		for i := -1; i <= 3; i++ {
			states = append(states, stateOf{[]int{0, i, len(list)}, list})
		}
	}
	top := capsOf(3)
	facts := []impl.Facts{top, impl.FactsAdd(top, 0, 1, 0), impl.FactsAdd(impl.FactsAdd(top, 0, 1, 0), 1, 2, -1), impl.FactsAdd(top, 1, 0, 0), impl.FactsAdd(impl.FactsAdd(top, 1, 0, 1), 0, 1, -1), impl.FactsAdd(top, 0, 2, -2), impl.FactsAdd(top, 2, 1, 1)}
	terms := []impl.Sym{sym(0, 0), sym(0, 1), sym(0, 2), sym(1, 0), sym(1, 1), sym(1, -1), sym(2, -1), sym(2, -2)}
	vals := []impl.Val{noCell(), sure(span(1, 1)), unsure(noRange())}
	had, back := 0, 0
	for _, bounds := range smallBounds() {
		for at, s := range smallRows(bounds, vals) {
			if len(bounds) == 4 && at%5 > 0 {
				continue
			}
			g := groundOf(3, 2, s, facts[at%len(facts)])
			g.keepsSharp(t, nil)
			for _, one := range states {
				if !impl.FactsHas(g.f, one.vals) || !impl.SegHas(3, 2, s, one.vals, one.cells) {
					continue
				}
				g.keepsSharp(t, []stateOf{one})
				for _, x := range terms {
					if place := one.vals[x.V] + x.C; place >= 0 && place < len(one.cells) {
						g.keepsPlace(t, one, place, sym(0, place-at%2), sym(2, place-len(one.cells)+at%3), x, span(2, 3))
						had++
					}
				}
			}
			for _, x := range terms {
				if g.readsBack(t, x, span(2, 3)) {
					back++
				}
			}
		}
	}
	if had < 5000 || back < 1000 {
		t.Fatalf("%d states are had, %d read back", had, back)
	}
}

// Rows whose bounds stand in any order, and terms as many as may be, by facts
// that tell much of them and little: all is as it is told otherwise, and what is
// written is read back, also where the row has no state.
func TestShuffledRowsAtPlaces(t *testing.T) {
	next := draws(13013)
	bare, weak, strong, back, narrow := 0, 0, 0, 0, 0
	for range 6000 {
		s := shuffled(next, segLen)
		var rows [][]int
		for range 1 + next(2) {
			rows = append(rows, []int{0, next(41) - 20, next(41) - 20, next(250), next(20)})
		}
		g := groundOf(segSize, segLen, s, factsAround(next, segSize, rows...))
		all := allTerms(s)
		pick := func() impl.Sym {
			term := []impl.Sym{all[next(len(all))], all[next(len(all))], sym(next(segSize), 100+next(60)), sym(segLen, -next(3))}[next(4)]
			term.C += next(3) - 1
			return term
		}
		x, b := pick(), pick()
		if next(3) == 0 {
			if f := placeFacts(g.f, segLen, x); !isNoFacts(f) {
				g = groundOf(segSize, segLen, s, f)
			}
		}
		g.wantAll(t, x, b, span(-3, 7))
		g.wantAll(t, b, x, span(5, 5))
		g.keepsSharp(t, nil)
		put := impl.SegWrite(segSize, segLen, s, g.f, x, span(5, 5))
		switch {
		case len(put.Bounds) <= 4 && len(s.Bounds) > 8 && len(allTerms(put)) <= 4:
			bare++
		case len(s.Bounds) == 1 || x == sym(segLen, 0):
			weak++
		default:
			strong++
		}
		if from, to := g.wantSpan(t, x, x); to == from+1 {
			narrow++
		}
		if g.readsBack(t, x, span(5, 5)) {
			back++
		}
	}
	if bare < 200 || weak < 200 || strong < 3000 || back < 1000 || narrow < 1500 {
		t.Fatalf("%d bare, %d weak, %d strong, %d read back, %d narrow", bare, weak, strong, back, narrow)
	}
}

// All rows and many facts and terms: as told otherwise.
func TestManyPlaces(t *testing.T) {
	next := draws(131)
	var terms []impl.Sym
	for v := range segSize {
		for _, c := range []int{-gap, -1001, -1000, -999, -3, -2, -1, 0, 1, 2, 3, 5, 8, 15, 998, 999, 1000, 1001, gap} {
			terms = append(terms, sym(v, c))
		}
	}
	for _, s := range okRows(t) {
		for range 12 {
			f := someFacts(next, segSize)
			if isNoFacts(closedByRounds(f)) {
				f = factsAround(next, segSize, someRow(next, segSize), someRow(next, segSize))
			}
			g := groundOf(segSize, segLen, s, f)
			for _, a := range terms {
				g.wantAll(t, a, terms[next(len(terms))], span(-2, 3))
				g.wantAll(t, a, a, span(0, 0))
			}
		}
	}
}

// The steps of programs that run: of a row around the state ahead of an EgPut
// the state behind is had, and each cell that a step reads is as told.
func TestPlacesAlongRuns(t *testing.T) {
	next := draws(1313)
	counts := map[string]int{}
	inputs := []int{3, -1, 2, 0, 5}
	for range 300 {
		n := runProgram(t, next)
		var lens []int
		for _, size := range impl.SizesOf(n) {
			if size < 0 {
				lens = append(lens, next(5))
			}
		}
		g, size := impl.GraphOf(n), 1+len(impl.LabelsOf(n))
		c, _ := impl.Begin(n, lens)
		for range 40 {
			ahead := c
			c = impl.Step(n, c, inputs)
			edge := slices.IndexFunc(g.Edges, func(e impl.Edge) bool { return e.From == ahead.Point })
			if c.Trap != 0 || edge < 0 {
				break
			}
			for _, access := range impl.AccessesOf(n, edge) {
				place, trap := impl.ValueOf(n, ahead, access.Index)
				state := stateOf{valsOf(ahead), ahead.Cells[access.Array]}
				l := 1 + len(ahead.Vars) + access.Array
				s := someRowAround(next, l, state)
				if trap != 0 || !impl.SegOk(size, l, s) {
					continue
				}
				h := groundOf(size, l, s, factsAround(next, size, state.vals))
				h.s = h.keepsSharp(t, []stateOf{state})
				x, isTerm := impl.SymOf(n, access.Index)
				if !isTerm {
					x = sym(0, place)
				}
				h.keepsPlace(t, state, place, sym(0, place-next(3)), sym(l, place-len(state.cells)+next(3)), x, span(-1, 1))
				counts["read"]++
				if access.Write {
					num := c.Cells[access.Array][place].Num
					put := h.wantWrite(t, x, span(num, num))
					if !impl.SegHas(size, l, put, valsOf(c), c.Cells[access.Array]) {
						t.Fatalf("%v has not %v", put, c)
					}
					counts["write"]++
				}
			}
		}
	}
	if counts["read"] < 300 || counts["write"] < 100 {
		t.Fatal(counts)
	}
}

// roomyFacts: the same facts with room behind them, in which something stands.
func roomyFacts(f impl.Facts) impl.Facts {
	return impl.Facts{Size: f.Size, Most: append(slices.Clone(f.Most), 77, -gap)[:len(f.Most)]}
}

// Every answer is new memory, no two lists of one share any, nothing is written
// into an argument nor behind it, and what is behind it is not read.
func TestArgumentsOfPlacesAreKept(t *testing.T) {
	list := append(okRows(t), spacedRow(16, 0), spacedRow(15, 20), spacedRow(2, 38), rowWith(2, [3]int{10, 10, 10}, 1, 5))
	for _, one := range list {
		for _, facts := range []string{"", "i >= 0, i - len(a) <= -1", "i = 0, j <= 0, len(a) >= 3", "i - j = 1, j >= 12"} {
			f := known(t, facts)
			g := ground{segSize, segLen, roomy(one), roomyFacts(f), closedByRounds(f)}
			terms1, vals1, maybe1 := behind(g.s)
			for range 2 {
				wipeSeg(t, g.wantSharpen(t))
				for _, x := range []impl.Sym{sym(0, 0), sym(1, 0), sym(2, 1), sym(3, -1), sym(3, 0), sym(0, -1), sym(0, 20), sym(1, 1000)} {
					wipeSeg(t, g.wantWrite(t, x, span(7, 9)))
					wipeSeg(t, g.wantWeak(t, x, x, span(7, 9)))
					wipeSeg(t, g.wantWeak(t, sym(0, 0), x, span(7, 9)))
					g.wantSpan(t, x, x)
					g.wantRead(t, x, x)
				}
			}
			terms2, vals2, maybe2 := behind(g.s)
			if !sameSeg(g.s, one) || !slices.Equal(terms1, terms2) || !slices.Equal(vals1, vals2) || !slices.Equal(maybe1, maybe2) {
				t.Fatalf("%v has become %v", one, g.s)
			}
			if count := len(f.Most); !sameFacts(g.f, f) || !slices.Equal(g.f.Most[count:count+2], []int{77, -gap}) {
				t.Fatalf("%v has become %v", f, g.f)
			}
		}
	}
}

// What bounds share in an argument they do not share in an answer.
func TestSharedBoundsAtPlaces(t *testing.T) {
	all := []impl.Sym{sym(0, 0), sym(0, 1), sym(1, 0), sym(1, 4), sym(3, 0)}
	before := slices.Clone(all)
	s := impl.Seg{Bounds: [][]impl.Sym{all[:2], all[2:3], all[3:]}, Vals: []impl.Val{{}, {}}, Maybe: []bool{true, true}}
	for _, facts := range []string{"", "i <= 0", "i >= 2, len(a) - i >= 5", "j = 0"} {
		g := groundOf(segSize, segLen, s, known(t, facts))
		for range 2 {
			wipeSeg(t, g.wantSharpen(t))
			for _, x := range []impl.Sym{sym(0, 0), sym(0, 1), sym(1, 0), sym(1, 3), sym(2, 0), sym(3, -1), sym(3, 0)} {
				wipeSeg(t, g.wantWrite(t, x, span(7, 9)))
				wipeSeg(t, g.wantWeak(t, x, x, span(7, 9)))
			}
			if !slices.Equal(all, before) {
				t.Fatalf("%v has become %v", before, all)
			}
		}
	}
}
