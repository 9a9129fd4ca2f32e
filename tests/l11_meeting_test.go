package tests

import (
	"math"
	"runtime"
	"slices"
	"strings"
	"sync"
	"testing"

	"loop.example/g00093/impl"
)

// A crossed is a crossing: a bound of the one, a bound of the other, and the
// terms that both have.
type crossed struct {
	i, j  int
	terms []impl.Sym
}

// crossingsByTerms: all crossings of two Segs, found from term to term, by the
// bound of the first, then by that of the second.
func crossingsByTerms(a, b impl.Seg) []crossed {
	var list []crossed
	for i, bound := range a.Bounds {
		for _, term := range bound {
			j := slices.IndexFunc(b.Bounds, func(other []impl.Sym) bool { return slices.Contains(other, term) })
			at := slices.IndexFunc(list, func(c crossed) bool { return c.i == i && c.j == j })
			switch {
			case j < 0:
			case at < 0:
				list = append(list, crossed{i, j, []impl.Sym{term}})
			default:
				list[at].terms = append(list[at].terms, term)
			}
		}
	}
	slices.SortFunc(list, func(a, b crossed) int { return 100*(a.i-b.i) + a.j - b.j })
	return list
}

// keptByPairs: the crossings ahead of which there is none with a greater j, the
// first fifteen and the last one where there are more than sixteen.
func keptByPairs(a, b impl.Seg) []crossed {
	var kept []crossed
	all := crossingsByTerms(a, b)
	for _, one := range all {
		falls := slices.ContainsFunc(all, func(other crossed) bool { return other.i < one.i && other.j > one.j })
		if !falls {
			kept = append(kept, one)
		}
	}
	if count := len(kept); count > 16 {
		kept = append(slices.Clone(kept[:15]), kept[count-1])
	}
	return kept
}

// saidFromTo: what a Seg says from a bound to another one, number by number.
func saidFromTo(s impl.Seg, from, to int) (impl.Val, bool) {
	var ends []int
	isSure, isMaybe := true, true
	for at := from; at < to; at++ {
		if r := s.Vals[at].R; r != noRange() {
			ends = append(ends, r.Lo, r.Hi)
		}
		isSure, isMaybe = isSure && s.Vals[at].Sure, isMaybe && s.Maybe[at]
	}
	return impl.Val{R: around(ends), Sure: isSure}, isMaybe
}

// alignByTerms: two Segs that are ok over their common bounds, told otherwise.
func alignByTerms(a, b impl.Seg) (impl.Seg, impl.Seg) {
	var first, second impl.Seg
	kept := keptByPairs(a, b)
	for at, one := range kept {
		first.Bounds, second.Bounds = append(first.Bounds, one.terms), append(second.Bounds, one.terms)
		if at == 0 {
			continue
		}
		v, maybe := saidFromTo(a, kept[at-1].i, one.i)
		first.Vals, first.Maybe = append(first.Vals, v), append(first.Maybe, maybe)
		v, maybe = saidFromTo(b, kept[at-1].j, one.j)
		second.Vals, second.Maybe = append(second.Vals, v), append(second.Maybe, maybe)
	}
	return first, second
}

// leqByTerms: whether a Seg that is ok is in another one, told otherwise.
func leqByTerms(a, b impl.Seg) bool {
	first, second := alignByTerms(a, b)
	for _, term := range allTerms(b) {
		if !slices.Contains(allTerms(first), term) {
			return false
		}
	}
	for at, one := range first.Vals {
		other := second.Vals[at]
		isIn := one.R == noRange() || other.R != noRange() && other.R.Lo <= one.R.Lo && one.R.Hi <= other.R.Hi
		if !isIn || other.Sure && !one.Sure || first.Maybe[at] && !second.Maybe[at] {
			return false
		}
	}
	return true
}

// metByTerms: two Segs that are ok brought together by what is done to ranges.
func metByTerms(a, b impl.Seg, bring func(one, other impl.Range) impl.Range) impl.Seg {
	first, second := alignByTerms(a, b)
	for at, one := range first.Vals {
		other := second.Vals[at]
		first.Vals[at] = impl.Val{R: bring(one.R, other.R), Sure: one.Sure && other.Sure}
		first.Maybe[at] = first.Maybe[at] || second.Maybe[at]
	}
	return first
}

func joinByTerms(a, b impl.Seg) impl.Seg {
	return metByTerms(a, b, func(one, other impl.Range) impl.Range {
		var ends []int
		for _, r := range []impl.Range{one, other} {
			if r != noRange() {
				ends = append(ends, r.Lo, r.Hi)
			}
		}
		return around(ends)
	})
}

func widenByTerms(a, b impl.Seg, steps []int) impl.Seg {
	return metByTerms(a, b, func(one, other impl.Range) impl.Range { return widened(one, other, steps) })
}

// A meeting is all that is told of two Segs.
type meeting struct {
	first, second, join, wide impl.Seg
}

// wantMeeting: what is told of two Segs that are ok is as it is told otherwise,
// is ok, and leaves both as they are; each of the two is in what comes of them.
func wantMeeting(t *testing.T, size, l int, a, b impl.Seg, steps []int) meeting {
	t.Helper()
	beforeA, beforeB := copySeg(a), copySeg(b)
	var got meeting
	got.first, got.second = impl.SegAlign(size, l, a, b)
	got.join, got.wide = impl.SegJoin(size, l, a, b), impl.SegWiden(size, l, a, b, steps)
	first, second := alignByTerms(a, b)
	wantSeg(t, got.first, first, "the first of", a, b)
	wantSeg(t, got.second, second, "the second of", a, b)
	wantSeg(t, got.join, joinByTerms(a, b), "the join of", a, b)
	wantSeg(t, got.wide, widenByTerms(a, b, steps), "the widening of", a, b, steps)
	for _, s := range []impl.Seg{got.first, got.second, got.join, got.wide} {
		if wantSegOk(t, size, l, s, true); !isSegByPairs(size, l, s) {
			t.Fatalf("%v comes of %v and %v", s, a, b)
		}
		if !impl.SegLeq(size, l, s, s) {
			t.Fatalf("what comes of %v and %v is not in itself", a, b)
		}
	}
	for _, whole := range []impl.Seg{got.join, got.wide} {
		if !impl.SegLeq(size, l, a, whole) || !impl.SegLeq(size, l, b, whole) {
			t.Fatalf("%v and %v are not in %v", a, b, whole)
		}
	}
	if !impl.SegLeq(size, l, a, got.first) || !impl.SegLeq(size, l, b, got.second) || !impl.SegLeq(size, l, got.join, got.wide) {
		t.Fatalf("%v and %v: %v", a, b, got)
	}
	for _, pair := range [][2]impl.Seg{{a, b}, {b, a}, {got.join, a}, {got.join, b}, {got.wide, got.join}, {got.first, got.second}} {
		if leq := impl.SegLeq(size, l, pair[0], pair[1]); leq != leqByTerms(pair[0], pair[1]) {
			t.Fatalf("%v in %v: %v", pair[0], pair[1], leq)
		}
	}
	if !sameSeg(a, beforeA) || !sameSeg(b, beforeB) {
		t.Fatalf("%v and %v have become %v and %v", beforeA, beforeB, a, b)
	}
	return got
}

// wantAlign: two Segs over their common bounds, told as texts.
func wantAlign(t *testing.T, a, b, first, second string) {
	t.Helper()
	got := wantMeeting(t, segSize, segLen, seg(t, a), seg(t, b), nil)
	if x := impl.SegText(segSize, segLen, got.first, segNames()); x != first {
		t.Fatalf("%s and %s: the first %s, want %s", a, b, x, first)
	}
	if y := impl.SegText(segSize, segLen, got.second, segNames()); y != second {
		t.Fatalf("%s and %s: the second %s, want %s", a, b, y, second)
	}
}

// wantAlignBothWays: likewise, where the two changed about are told alike.
func wantAlignBothWays(t *testing.T, a, b, first, second string) {
	t.Helper()
	wantAlign(t, a, b, first, second)
	wantAlign(t, b, a, second, first)
}

func TestAlignedBounds(t *testing.T) {
	for _, one := range [][4]string{
		// The same.
		{"{0} 1..1 {len(a)}", "{0} 1..1 {len(a)}", "{0} 1..1 {len(a)}", "{0} 1..1 {len(a)}"},
		{"{0} 1..1 {len(a)}", "{0} 5..6 or unwritten ? {len(a)}", "{0} 1..1 {len(a)}", "{0} 5..6 or unwritten ? {len(a)}"},
		{"{0, i} 1..1 {1, j} 2..2 ? {len(a), len(b)}", "{0, i} 5..5 ? {1, j} none {len(a), len(b)}", "{0, i} 1..1 {1, j} 2..2 ? {len(a), len(b)}", "{0, i} 5..5 ? {1, j} none {len(a), len(b)}"},
		// Only the first and the last terms in common.
		{"{0, i} 1..1 {1} 2..2 ? {j, len(a)}", "{0, j + 1} 3..3 ? {2} 4..4 ? {i + 1, len(a)}", "{0} 1..2 {len(a)}", "{0} 3..4 ? {len(a)}"},
		{"{0} 1..1 {i} 2..2 {j} 9..9 {len(a)}", "{0} 4..4 {len(a)}", "{0} 1..9 {len(a)}", "{0} 4..4 {len(a)}"},
		{"{0} 1..1 {i - 1} 2..2 {len(a)}", "{0} 3..3 {i + 1} 4..4 {len(a)}", "{0} 1..2 {len(a)}", "{0} 3..4 {len(a)}"},
		{"{-1, 0, 1} 1..1 {i} 2..2 {len(a)}", "{0, 2, 3} 3..3 {j} 4..4 {len(a), len(b)}", "{0} 1..2 {len(a)}", "{0} 3..4 {len(a)}"},
		// Terms here and there.
		{"{0, i} 1..1 {1, i + 1, j} 2..2 ? {3} 3..3 {len(a), len(b)}", "{0, 7} 4..4 {1, j, j + 1} 5..5 {2} 6..6 {3, i + 9} 7..7 ? {len(a), len(b) - 1}", "{0} 1..1 {1, j} 2..2 ? {3} 3..3 {len(a)}", "{0} 4..4 {1, j} 5..6 {3} 7..7 ? {len(a)}"},
		{"{0} 1..1 {i} 2..2 {1} 3..3 {j} 4..4 {len(a)}", "{0} 5..5 {2} 6..6 {i} 7..7 {3} 8..8 {j, j + 1} 9..9 {len(a)}", "{0} 1..1 {i} 2..3 {j} 4..4 {len(a)}", "{0} 5..6 {i} 7..8 {j} 9..9 {len(a)}"},
		{"{0, i} 1..1 {len(a)}", "{0} 2..2 {j} 3..3 {len(a)}", "{0} 1..1 {len(a)}", "{0} 2..3 {len(a)}"},
		{"{0} 1..1 {j, len(a), len(b)}", "{0} 2..2 {i} 3..3 {5, j, len(a)}", "{0} 1..1 {j, len(a)}", "{0} 2..3 {j, len(a)}"},
		{"{0, i, len(b)} 1..1 {1} 2..2 {len(a)}", "{-5, 0, i, j, len(b)} 3..3 {len(a)}", "{0, i, len(b)} 1..2 {len(a)}", "{0, i, len(b)} 3..3 {len(a)}"},
	} {
		wantAlignBothWays(t, one[0], one[1], one[2], one[3])
	}
}

// A bound that has terms in common with two, three and more of the other: the
// bound is told once for each, and between these there is no cell, Maybe.
func TestBoundsThatCrossSeveral(t *testing.T) {
	for _, one := range [][4]string{
		// The first bound.
		{"{0, i} 1..1 {len(a)}", "{0} 5..5 {i} 6..6 {len(a)}", "{0} none ? {i} 1..1 {len(a)}", "{0} 5..5 {i} 6..6 {len(a)}"},
		{"{0, i, j} 1..1 {len(a)}", "{0} 5..5 {i} 6..6 ? {j} 7..7 or unwritten {len(a)}", "{0} none ? {i} none ? {j} 1..1 {len(a)}", "{0} 5..5 {i} 6..6 ? {j} 7..7 or unwritten {len(a)}"},
		{"{0, 1, i, j, len(b)} 1..1 {len(a)}", "{0} 5..5 {i} 6..6 {1} 7..7 {len(b)} 8..8 {j} 9..9 {len(a)}", "{0} none ? {i} none ? {1} none ? {len(b)} none ? {j} 1..1 {len(a)}", "{0} 5..5 {i} 6..6 {1} 7..7 {len(b)} 8..8 {j} 9..9 {len(a)}"},
		// One in the midst, with bounds of the other between that it does not cross.
		{"{0} 1..1 {i, j} 2..2 {len(a)}", "{0} 5..5 {i} 6..6 {1} 7..7 ? {j} 8..8 {len(a)}", "{0} 1..1 {i} none ? {j} 2..2 {len(a)}", "{0} 5..5 {i} 6..7 {j} 8..8 {len(a)}"},
		{"{0} 1..1 {3, i, j} 2..2 {len(a)}", "{0} 5..5 {j} 6..6 {i} 7..7 {3} 8..8 {len(a)}", "{0} 1..1 {j} none ? {i} none ? {3} 2..2 {len(a)}", "{0} 5..5 {j} 6..6 {i} 7..7 {3} 8..8 {len(a)}"},
		{"{0} 1..1 {1, 2, i, j} 2..2 {len(a)}", "{0} 5..5 {1, 2} 6..6 {i, j} 8..8 {len(a)}", "{0} 1..1 {1, 2} none ? {i, j} 2..2 {len(a)}", "{0} 5..5 {1, 2} 6..6 {i, j} 8..8 {len(a)}"},
		// The last bound.
		{"{0} 1..1 {i, len(a)}", "{0} 5..5 {i} 6..6 {len(a)}", "{0} 1..1 {i} none ? {len(a)}", "{0} 5..5 {i} 6..6 {len(a)}"},
		{"{0} 1..1 {i, j, len(a), len(b)}", "{0} 5..5 {len(b)} 6..6 {i} 7..7 {j} 8..8 {len(a)}", "{0} 1..1 {len(b)} none ? {i} none ? {j} none ? {len(a)}", "{0} 5..5 {len(b)} 6..6 {i} 7..7 {j} 8..8 {len(a)}"},
		// The one and the other in turn, and both of one crossing.
		{"{0, i} 1..1 {j} 2..2 {1, len(a)}", "{0} 5..5 {i, j} 6..6 {1} 7..7 {len(a)}", "{0} none ? {i} 1..1 {j} 2..2 {1} none ? {len(a)}", "{0} 5..5 {i} none ? {j} 6..6 {1} 7..7 {len(a)}"},
		{"{0, i} 1..1 {1, j} 2..2 {2, len(a)}", "{0} 5..5 {1, i} 6..6 {2, j} 7..7 {len(a)}", "{0} none ? {i} 1..1 {1} none ? {j} 2..2 {2} none ? {len(a)}", "{0} 5..5 {i} none ? {1} 6..6 {j} none ? {2} 7..7 {len(a)}"},
	} {
		wantAlignBothWays(t, one[0], one[1], one[2], one[3])
	}
}

// One bound alone, on one side and on both.
func TestOneBoundAlone(t *testing.T) {
	for _, one := range [][4]string{
		{"{0, len(a)}", "{0, len(a)}", "{0, len(a)}", "{0, len(a)}"},
		{"{0, i, len(a)}", "{0, j, len(a)}", "{0, len(a)}", "{0, len(a)}"},
		{"{0, i, j, len(a), len(b)}", "{0, j, len(a), len(b)}", "{0, j, len(a), len(b)}", "{0, j, len(a), len(b)}"},
		{"{0, len(a)}", "{0} 1..1 {len(a)}", "{0} none ? {len(a)}", "{0} 1..1 {len(a)}"},
		{"{0, len(a)}", "{0} 1..1 or unwritten ? {i} 2..2 ? {j} 3..3 ? {len(a)}", "{0} none ? {len(a)}", "{0} 1..3 or unwritten ? {len(a)}"},
		{"{0, i, len(a)}", "{0} 1..1 {i} 2..2 {len(a)}", "{0} none ? {i} none ? {len(a)}", "{0} 1..1 {i} 2..2 {len(a)}"},
		{"{0, i, j, len(a)}", "{0} 1..1 {j} 2..2 {i} 3..3 {len(a)}", "{0} none ? {j} none ? {i} none ? {len(a)}", "{0} 1..1 {j} 2..2 {i} 3..3 {len(a)}"},
		{"{0, i, j, len(a)}", "{0, i} 1..1 {j, len(a)}", "{0, i} none ? {j, len(a)}", "{0, i} 1..1 {j, len(a)}"},
	} {
		wantAlignBothWays(t, one[0], one[1], one[2], one[3])
	}
}

// Crossings that fall back are not kept; what is kept hangs on which of the two
// comes first.
func TestCrossingsThatFallBack(t *testing.T) {
	for _, one := range [][4]string{
		// One.
		{"{0} 1..1 {i} 2..2 {j} 3..3 {len(a)}", "{0} 5..5 {j} 6..6 {i} 7..7 {len(a)}", "{0} 1..1 {i} 2..3 {len(a)}", "{0} 5..6 {i} 7..7 {len(a)}"},
		{"{0} 5..5 {j} 6..6 {i} 7..7 {len(a)}", "{0} 1..1 {i} 2..2 {j} 3..3 {len(a)}", "{0} 5..5 {j} 6..7 {len(a)}", "{0} 1..2 {j} 3..3 {len(a)}"},
		// To the first bound of the other, and from its last one.
		{"{0} 1..1 {j} 2..2 {i} 3..3 {len(a)}", "{0, i} 5..5 {j} 6..6 {len(a)}", "{0} 1..1 {j} 2..3 {len(a)}", "{0} 5..5 {j} 6..6 {len(a)}"},
		{"{0, i} 5..5 {j} 6..6 {len(a)}", "{0} 1..1 {j} 2..2 {i} 3..3 {len(a)}", "{0} none ? {i} 5..6 {len(a)}", "{0} 1..2 {i} 3..3 {len(a)}"},
		{"{0} 1..1 {i} 2..2 {j} 3..3 {len(a)}", "{0} 5..5 {j} 6..6 {i, len(a)}", "{0} 1..1 {i} 2..3 {len(a)}", "{0} 5..6 {i} none ? {len(a)}"},
		{"{0} 5..5 {j} 6..6 {i, len(a)}", "{0} 1..1 {i} 2..2 {j} 3..3 {len(a)}", "{0} 5..5 {j} 6..6 {len(a)}", "{0} 1..2 {j} 3..3 {len(a)}"},
		// Of one bound of the first: one that falls back, and one that does not.
		{"{0} 1..1 {i} 2..2 {2, j} 3..3 {len(a)}", "{0} 5..5 {j} 6..6 {i} 7..7 {2} 8..8 {len(a)}", "{0} 1..1 {i} 2..2 {2} 3..3 {len(a)}", "{0} 5..6 {i} 7..7 {2} 8..8 {len(a)}"},
		{"{0} 1..1 {i} 2..2 {2, j} 3..3 {len(a)}", "{0} 5..5 {j} 6..6 {2, i} 8..8 {len(a)}", "{0} 1..1 {i} 2..2 {2} 3..3 {len(a)}", "{0} 5..6 {i} none ? {2} 8..8 {len(a)}"},
		// Several in a row: none of them is held against one that is not kept.
		{"{0} 1..1 {4} 2..2 {1} 3..3 {2} 4..4 {3} 5..5 {5} 6..6 {len(a)}", "{0} 11..11 {1} 12..12 {2} 13..13 {3} 14..14 {4} 15..15 {5} 16..16 {len(a)}", "{0} 1..1 {4} 2..5 {5} 6..6 {len(a)}", "{0} 11..14 {4} 15..15 {5} 16..16 {len(a)}"},
		{"{0} 1..1 {1} 2..2 {2} 3..3 {3} 4..4 {4} 5..5 {5} 6..6 {len(a)}", "{0} 11..11 {4} 12..12 {1} 13..13 {2} 14..14 {3} 15..15 {5} 16..16 {len(a)}", "{0} 1..1 {1} 2..2 {2} 3..3 {3} 4..5 {5} 6..6 {len(a)}", "{0} 11..12 {1} 13..13 {2} 14..14 {3} 15..15 {5} 16..16 {len(a)}"},
		{"{0} 1..1 {4} 2..2 {3} 3..3 {2} 4..4 {1} 5..5 {len(a)}", "{0} 11..11 {1} 12..12 {2} 13..13 {3} 14..14 {4} 15..15 {len(a)}", "{0} 1..1 {4} 2..5 {len(a)}", "{0} 11..14 {4} 15..15 {len(a)}"},
		{"{0} 1..1 {3} 2..2 {1, 2} 3..3 {4} 5..5 {len(a)}", "{0} 11..11 {1} 12..12 {2} 13..13 {3} 14..14 {4} 15..15 {len(a)}", "{0} 1..1 {3} 2..3 {4} 5..5 {len(a)}", "{0} 11..13 {3} 14..14 {4} 15..15 {len(a)}"},
		// Two times one behind a greater one.
		{"{0} 1..1 {2} 2..2 {1} 3..3 {4} 4..4 {3} 5..5 {len(a)}", "{0} 11..11 {1} 12..12 {2} 13..13 {3} 14..14 {4} 15..15 {len(a)}", "{0} 1..1 {2} 2..3 {4} 4..5 {len(a)}", "{0} 11..12 {2} 13..14 {4} 15..15 {len(a)}"},
		// From the first bound to the last one of the other: all between fall back.
		{"{0, i} 1..1 {1} 2..2 {2} 3..3 {len(a)}", "{0} 5..5 {1} 6..6 {2} 7..7 {i, len(a)}", "{0} none ? {i} 1..3 {len(a)}", "{0} 5..7 {i} none ? {len(a)}"},
		{"{0} 5..5 {1} 6..6 {2} 7..7 {i, len(a)}", "{0, i} 1..1 {1} 2..2 {2} 3..3 {len(a)}", "{0} 5..5 {1} 6..6 {2} 7..7 {len(a)}", "{0} 1..1 {1} 2..2 {2} 3..3 {len(a)}"},
		// The last bound and the first one of the other, where nothing is between.
		{"{0} 1..1 {i, len(a)}", "{0, i} 5..5 ? {len(a)}", "{0} 1..1 {i} none ? {len(a)}", "{0} none ? {i} 5..5 ? {len(a)}"},
		{"{0, i} 5..5 ? {len(a)}", "{0} 1..1 {i, len(a)}", "{0} none ? {i} 5..5 ? {len(a)}", "{0} 1..1 {i} none ? {len(a)}"},
	} {
		wantAlign(t, one[0], one[1], one[2], one[3])
	}
}

// The same j twice and the same i twice, in one meeting: between them no cell,
// Maybe, whatever the other has there.
func TestSameBoundTwice(t *testing.T) {
	for _, said := range []string{"1..1", "1..1 ?", "1..1 or unwritten", "1..1 or unwritten ?", "none", "none ?", "none or unwritten", "none or unwritten ?"} {
		for _, other := range []string{"2..2", "7..9 or unwritten ?", "none"} {
			wantAlignBothWays(t, "{0} "+said+" {i} "+other+" {len(a)}", "{0, i} "+said+" {len(a)}", "{0} "+said+" {i} "+other+" {len(a)}", "{0} none ? {i} "+said+" {len(a)}")
			wantAlignBothWays(t, "{0} "+other+" {i} "+said+" {len(a)}", "{0} "+other+" {i, len(a)}", "{0} "+other+" {i} "+said+" {len(a)}", "{0} "+other+" {i} none ? {len(a)}")
			wantAlignBothWays(t, "{0, i} "+said+" {j, len(a)}", "{0} "+other+" {i, j} "+said+" {len(a)}", "{0} none ? {i} "+said+" {j} none ? {len(a)}", "{0} "+other+" {i} none ? {j} "+said+" {len(a)}")
		}
	}
}

// Each of the ways of Maybe and of Sure, of two Vals and of three, between two
// bounds that are kept: at the left, in the midst and at the right.
func TestMaybeAndSureAligned(t *testing.T) {
	for bits := range 1 << 6 {
		mark := func(text string, at int) string {
			if bits>>at&1 == 1 {
				text += " or unwritten"
			}
			if bits>>(at+1)&1 == 1 {
				text += " ?"
			}
			return text
		}
		and := func(text string, isSure, isMaybe bool) string {
			if !isSure {
				text += " or unwritten"
			}
			if isMaybe {
				text += " ?"
			}
			return text
		}
		one, two, three := mark("1..2", 0), mark("5..6", 2), mark("8..9", 4)
		both := and("1..6", bits&5 == 0, bits&10 == 10)
		all := and("1..9", bits&21 == 0, bits&42 == 42)
		wantAlignBothWays(t, "{0} "+one+" {i} "+two+" {len(a)}", "{0} 3..3 {len(a)}", "{0} "+both+" {len(a)}", "{0} 3..3 {len(a)}")
		wantAlignBothWays(t, "{0} "+one+" {i} "+two+" {1} "+three+" {len(a)}", "{0} 3..3 {1} 4..4 ? {len(a)}", "{0} "+both+" {1} "+three+" {len(a)}", "{0} 3..3 {1} 4..4 ? {len(a)}")
		wantAlignBothWays(t, "{0} "+three+" {1} "+one+" {i} "+two+" {len(a)}", "{0} 3..3 {1} 4..4 ? {len(a)}", "{0} "+three+" {1} "+both+" {len(a)}", "{0} 3..3 {1} 4..4 ? {len(a)}")
		wantAlignBothWays(t, "{0} 0..0 {1} "+one+" {i} "+two+" {2} "+three+" {len(a)}", "{0} 3..3 {1} 4..4 ? {2} 5..5 {len(a)}", "{0} 0..0 {1} "+both+" {2} "+three+" {len(a)}", "{0} 3..3 {1} 4..4 ? {2} 5..5 {len(a)}")
		wantAlignBothWays(t, "{0} "+one+" {i} "+two+" {j} "+three+" {len(a)}", "{0} 3..3 {len(a)}", "{0} "+all+" {len(a)}", "{0} 3..3 {len(a)}")
		wantAlignBothWays(t, "{0} "+one+" {i} "+two+" {j} "+three+" {len(a)}", "{0} 3..3 {i} 4..4 {j} 5..5 {len(a)}", "{0} "+one+" {i} "+two+" {j} "+three+" {len(a)}", "{0} 3..3 {i} 4..4 {j} 5..5 {len(a)}")
	}
}

// stairs: two Segs that cross along a way: > is the next bound of the first, v
// the next one of the second, x the next one of both. Each crossing has a term
// of its own: that of the beginning, and then i and how far one has gone.
func stairs(way string) (impl.Seg, impl.Seg) {
	rows := [2]impl.Seg{{Bounds: [][]impl.Sym{{sym(0, 0)}}}, {Bounds: [][]impl.Sym{{sym(0, 0)}}}}
	put := func(term impl.Sym) {
		for _, s := range rows {
			last := len(s.Bounds) - 1
			s.Bounds[last] = append(s.Bounds[last], term)
		}
	}
	for far, step := range way {
		for side, other := range ">v" {
			if step != other && step != 'x' {
				continue
			}
			s := &rows[side]
			at := len(s.Bounds)
			s.Bounds = append(s.Bounds, nil)
			s.Vals = append(s.Vals, impl.Val{R: span(100*side+at, 100*side+2*at), Sure: at%3 > 0})
			s.Maybe = append(s.Maybe, at%2 == 0)
		}
		put(sym(1, 1+far))
	}
	put(sym(segLen, 0))
	return rows[0], rows[1]
}

// Just as many crossings as bounds may be, one more and many more: of too many
// the first ones and the last one are kept.
func TestCountsOfCrossings(t *testing.T) {
	for _, one := range []struct {
		way  string
		want int
	}{
		{strings.Repeat("x", 13), 14}, {strings.Repeat("x", 14), 15}, {strings.Repeat("x", 15), 16}, {strings.Repeat("x", 14) + ">", 16}, {strings.Repeat("x", 14) + "v", 16}, {strings.Repeat("x", 14) + ">v", 16}, {strings.Repeat("x", 14) + "v>", 16},
		{">" + strings.Repeat("x", 14), 16}, {"v" + strings.Repeat("x", 14), 16}, {"v" + strings.Repeat("x", 14) + ">", 16}, {strings.Repeat("x", 7) + ">v" + strings.Repeat("x", 7), 16}, {strings.Repeat("x", 7) + ">v" + strings.Repeat("x", 6), 16},
		{strings.Repeat(">", 15), 16}, {strings.Repeat("v", 15), 16}, {strings.Repeat(">", 14), 15}, {strings.Repeat("v", 14), 15}, {strings.Repeat(">", 15) + "v", 16}, {strings.Repeat("v", 15) + ">", 16}, {strings.Repeat(">", 14) + "v", 16},
		{strings.Repeat(">v", 7), 15}, {strings.Repeat(">v", 7) + ">", 16}, {strings.Repeat(">v", 8), 16}, {strings.Repeat(">v", 8) + ">", 16}, {strings.Repeat("v>", 8), 16}, {strings.Repeat("v>", 15), 16}, {strings.Repeat(">v", 15), 16},
		{strings.Repeat(">", 15) + strings.Repeat("v", 15), 16}, {strings.Repeat("v", 15) + strings.Repeat(">", 15), 16}, {strings.Repeat(">", 8) + strings.Repeat("v", 15) + strings.Repeat(">", 7), 16}, {strings.Repeat("x>v", 7), 16},
	} {
		a, b := stairs(one.way)
		if wantSegOk(t, segSize, segLen, a, true); len(crossingsByTerms(a, b)) != len(one.way)+1 {
			t.Fatalf("%s: %v and %v", one.way, a, b)
		}
		wantSegOk(t, segSize, segLen, b, true)
		got := wantMeeting(t, segSize, segLen, a, b, []int{0, 9})
		if len(got.first.Bounds) != one.want || len(got.second.Bounds) != one.want {
			t.Fatalf("%s: %d bounds, want %d", one.way, len(got.first.Bounds), one.want)
		}
		wantMeeting(t, segSize, segLen, b, a, []int{0, 9})
		for at := 1; at < one.want-1; at++ {
			if !slices.Equal(got.first.Bounds[at], []impl.Sym{sym(1, at)}) {
				t.Fatalf("%s: %v", one.way, got.first)
			}
		}
		if last := got.first.Bounds[one.want-1]; !slices.Equal(last, []impl.Sym{sym(1, len(one.way)), sym(segLen, 0)}) {
			t.Fatalf("%s: %v", one.way, got.first)
		}
	}
}

// Seventeen crossings: the sixteenth one goes, and what stood about it becomes
// one.
func TestOneCrossingTooMany(t *testing.T) {
	a, b := stairs(strings.Repeat("x", 14) + ">v")
	if len(a.Bounds) != 16 || len(b.Bounds) != 16 {
		t.Fatal(a, b)
	}
	first, second := impl.SegAlign(segSize, segLen, a, b)
	wantSeg(t, first, changed(a, func(s *impl.Seg) { s.Bounds[15] = []impl.Sym{sym(1, 16), sym(segLen, 0)} }))
	wantSeg(t, second, changed(b, func(s *impl.Seg) { s.Bounds[14] = []impl.Sym{sym(1, 14)} }))
	// One that falls back does not count among those that are too many.
	a, b = stairs(strings.Repeat("x", 15))
	a.Bounds[9], b.Bounds[2] = append(a.Bounds[9], sym(4, 7)), append(b.Bounds[2], sym(4, 7))
	first, second = impl.SegAlign(segSize, segLen, a, b)
	wantSeg(t, first, changed(a, func(s *impl.Seg) { s.Bounds[9] = []impl.Sym{sym(1, 9)} }))
	wantSeg(t, second, changed(b, func(s *impl.Seg) { s.Bounds[2] = []impl.Sym{sym(1, 2)} }))
	// One that falls back behind the fifteenth one kept, of which more come.
	a, b = stairs(strings.Repeat(">v", 15))
	a.Bounds[15], b.Bounds[0] = append(a.Bounds[15], sym(4, 7)), append(b.Bounds[0], sym(4, 7))
	first, second = impl.SegAlign(segSize, segLen, a, b)
	if bound := first.Bounds[15]; !slices.Equal(bound, []impl.Sym{sym(1, 30), sym(segLen, 0)}) || !slices.Equal(second.Bounds[15], bound) {
		t.Fatal(first, second)
	}
	wantMeeting(t, segSize, segLen, a, b, nil)
	wantMeeting(t, segSize, segLen, b, a, nil)
}

// Terms as many as there may be.
func TestManyTermsAligned(t *testing.T) {
	list := okRows(t)
	for _, a := range list {
		for _, b := range list {
			wantMeeting(t, segSize, segLen, a, b, []int{-1, 3, 7})
		}
	}
	for _, s := range list {
		for at := range s.Bounds {
			one, other := s, changed(s, func(s *impl.Seg) {
				for next := range s.Vals {
					s.Vals[next], s.Maybe[next] = unsure(span(-at, at)), at == next
				}
			})
			got := wantMeeting(t, segSize, segLen, one, other, nil)
			wantSeg(t, got.first, one, "the same bounds")
			wantSeg(t, got.second, other, "the same bounds")
		}
	}
}

// wrongSegs: Segs that are not ok, each for another reason.
func wrongSegs(t *testing.T) []impl.Seg {
	list := []impl.Seg{{}, {Vals: []impl.Val{{}}, Maybe: []bool{true}}, {Bounds: [][]impl.Sym{nil}}, plainRow(17, 1), plainRow(2, 21), plainRow(1, 41)}
	for _, text := range []string{
		"{len(a)}", "{0}", "{0} 1..1 {len(b)}", "{1} 1..1 {len(a)}", "{0} 1..1 {} 2..2 {len(a)}", "{0, 0} 1..1 {len(a)}", "{i, 0} 1..1 {len(a)}", "{0, i} 1..1 {i} 2..2 {len(a)}", "{0} 1..1 {1} 2..2 {1, len(a)}", "{0, len(a)} 1..1 {len(b)}",
	} {
		list = append(list, seg(t, text))
	}
	s := seg(t, "{0} 1..1 {i} 2..2 ? {len(a)}")
	return append(list,
		changed(s, func(s *impl.Seg) { s.Bounds[1][0].C = 1001 }),
		changed(s, func(s *impl.Seg) { s.Bounds[1][0] = sym(segSize, 0) }),
		changed(s, func(s *impl.Seg) { s.Bounds[1][0] = sym(math.MinInt, math.MaxInt) }),
		changed(s, func(s *impl.Seg) { s.Vals[0] = sure(span(2, 0)) }),
		changed(s, func(s *impl.Seg) { s.Vals[1] = unsure(span(0, bound+1)) }),
		changed(s, func(s *impl.Seg) { s.Vals = s.Vals[:1] }),
		changed(s, func(s *impl.Seg) { s.Vals = append(s.Vals, impl.Val{}) }),
		changed(s, func(s *impl.Seg) { s.Vals = nil }),
		changed(s, func(s *impl.Seg) { s.Maybe = s.Maybe[:1] }),
		changed(s, func(s *impl.Seg) { s.Maybe = append(s.Maybe, true) }),
		changed(s, func(s *impl.Seg) { s.Maybe = nil }),
		changed(s, func(s *impl.Seg) { s.Bounds = make([][]impl.Sym, 100000) }),
		changed(s, func(s *impl.Seg) { s.Bounds[1] = make([]impl.Sym, 100000) }),
		changed(s, func(s *impl.Seg) { s.Vals = make([]impl.Val, 100000) }),
	)
}

// wantNoMeeting: nothing is told of two Segs.
func wantNoMeeting(t *testing.T, size, l int, a, b impl.Seg) {
	t.Helper()
	if first, second := impl.SegAlign(size, l, a, b); !isNoSeg(first) || !isNoSeg(second) {
		t.Fatalf("%d, %d: %v and %v: %v and %v", size, l, a, b, first, second)
	}
	if impl.SegLeq(size, l, a, b) {
		t.Fatalf("%d, %d: %v is in %v", size, l, a, b)
	}
	if join := impl.SegJoin(size, l, a, b); !isNoSeg(join) {
		t.Fatalf("%d, %d: %v and %v: join %v", size, l, a, b, join)
	}
	for _, steps := range [][]int{nil, {0}, mostSteps(-20, 20), {1, 0}} {
		if wide := impl.SegWiden(size, l, a, b, steps); !isNoSeg(wide) {
			t.Fatalf("%d, %d: %v and %v: wide %v", size, l, a, b, wide)
		}
	}
}

func TestMeetingOfWrongSegs(t *testing.T) {
	list := wrongSegs(t)
	for at, wrong := range list {
		wantSegOk(t, segSize, segLen, wrong, false)
		for _, s := range okRows(t) {
			wantNoMeeting(t, segSize, segLen, wrong, s)
			wantNoMeeting(t, segSize, segLen, s, wrong)
		}
		wantNoMeeting(t, segSize, segLen, wrong, wrong)
		wantNoMeeting(t, segSize, segLen, wrong, list[(at+1)%len(list)])
	}
}

func TestSizesOfMeetings(t *testing.T) {
	sizes := append(manyInts(), 3, 4, 5, 6, 7, 8, 9, 10)
	for _, size := range sizes {
		for _, l := range append(sizes, size-1, size, size+1) {
			one := impl.Seg{Bounds: [][]impl.Sym{{sym(0, 0), sym(l, 0)}}}
			two := impl.Seg{Bounds: [][]impl.Sym{{sym(0, 0)}, {sym(l, 0)}}, Vals: []impl.Val{sure(span(1, 2))}, Maybe: []bool{false}}
			for _, pair := range [][2]impl.Seg{{one, one}, {one, two}, {two, one}, {two, two}} {
				if size >= 2 && size <= 13 && l >= 1 && l < size {
					wantMeeting(t, size, l, pair[0], pair[1], nil)
				} else {
					wantNoMeeting(t, size, l, pair[0], pair[1])
				}
			}
		}
	}
	// A Seg of one length and one of another.
	a, b := impl.SegTop(segSize, 3, sure(span(0, 1))), impl.SegTop(segSize, 4, sure(span(0, 1)))
	for l := range segSize + 1 {
		wantNoMeeting(t, segSize, l, a, b)
		wantNoMeeting(t, segSize, l, b, a)
	}
	both := seg(t, "{0} 1..1 {i} 2..2 {len(a), len(b)}")
	wantMeeting(t, segSize, 3, a, both, nil)
	wantMeeting(t, segSize, 4, both, b, nil)
	wantNoMeeting(t, segSize, 4, a, both)
	wantNoMeeting(t, segSize, 3, b, both)
	// A symbol that there is not.
	wantMeeting(t, 4, 3, a, a, nil)
	wantNoMeeting(t, 4, 3, a, both)
	wantNoMeeting(t, 4, 3, both, a)
}

// wantLeq: whether a Seg is in another one, told as texts.
func wantLeq(t *testing.T, a, b string, want bool) {
	t.Helper()
	wantMeeting(t, segSize, segLen, seg(t, a), seg(t, b), nil)
	if got := impl.SegLeq(segSize, segLen, seg(t, a), seg(t, b)); got != want {
		t.Fatalf("%s in %s: %v", a, b, got)
	}
}

func TestSegsAreInThemselves(t *testing.T) {
	for _, s := range okRows(t) {
		if !impl.SegLeq(segSize, segLen, s, s) || !impl.SegLeq(segSize, segLen, s, copySeg(s)) {
			t.Fatalf("%v is not in itself", s)
		}
		if top := impl.SegTop(segSize, segLen, unsure(span(-bound, bound))); !impl.SegLeq(segSize, segLen, s, top) || impl.SegLeq(segSize, segLen, top, s) != sameSeg(top, s) {
			t.Fatalf("%v and all there is", s)
		}
	}
}

func TestSegLeq(t *testing.T) {
	for _, one := range []struct {
		a, b string
		want bool
	}{
		// Terms of the first that the second has not.
		{"{0, i} 1..1 {j} 2..2 {len(a), len(b)}", "{0} 1..2 {len(a)}", true},
		{"{0, i} 1..1 {j} 2..2 {len(a), len(b)}", "{0} 1..1 {len(a)}", false},
		{"{0, i} 1..1 {j} 2..2 {len(a)}", "{0} 1..1 {j} 2..2 {len(a)}", true},
		{"{0, i} 1..1 ? {j} 2..2 {len(a)}", "{0} 1..2 {len(a)}", true},
		{"{0, i} 1..1 ? {j} 2..2 ? {len(a)}", "{0} 1..2 {len(a)}", false},
		{"{0} 1..1 {1, i, j} 2..2 {len(a)}", "{0} 1..1 {i} 2..2 {len(a)}", true},
		// A term of the second that stands in no common bound.
		{"{0} 1..2 {len(a)}", "{0, i} 1..2 {len(a)}", false},
		{"{0} 1..2 {len(a)}", "{0} 1..2 {len(a), len(b)}", false},
		{"{0} 1..2 {len(a)}", "{0} 1..2 ? {i} 1..2 ? {len(a)}", false},
		{"{0} 1..2 {i} 1..2 {len(a)}", "{0} 1..2 {i, j} 1..2 {len(a)}", false},
		{"{0} 1..2 {i} 1..2 {len(a)}", "{0} 1..2 {j} 1..2 {len(a)}", false},
		{"{0} 1..2 {i} 1..2 {len(a)}", "{0} 1..2 {i + 1} 1..2 {len(a)}", false},
		{"{0, len(a)}", "{0, i, len(a)}", false},
		{"{0, i, len(a)}", "{0, len(a)}", true},
		// One whose crossing falls back.
		{"{0} 1..1 {i} 1..1 {j} 1..1 {len(a)}", "{0} 1..1 {j} 1..1 {i} 1..1 {len(a)}", false},
		{"{0} 1..1 {i} 1..1 {j} 1..1 {len(a)}", "{0} 1..1 {i} 1..1 {len(a)}", true},
		{"{0} 1..1 {i} 1..1 {j} 1..1 {len(a)}", "{0} 1..1 {j} 1..1 {len(a)}", true},
		{"{0} none ? {i} none ? {j} none ? {len(a)}", "{0} 1..1 ? {j} 1..1 ? {i, len(a)}", false},
		{"{0} none ? {i, len(a)}", "{0, i} 1..1 ? {len(a)}", true},
		// A bound of the second that crosses several: there must be no cell.
		{"{0} none ? {i} 1..1 {len(a)}", "{0, i} 1..1 {len(a)}", true},
		{"{0} none {i} 1..1 {len(a)}", "{0, i} 1..1 {len(a)}", true},
		{"{0} none or unwritten ? {i} 1..1 {len(a)}", "{0, i} 1..1 {len(a)}", false},
		{"{0} 1..1 ? {i} 1..1 {len(a)}", "{0, i} 1..1 {len(a)}", false},
		{"{0} none ? {i} none ? {len(a)}", "{0, i, len(a)}", true},
		{"{0} none ? {i} none or unwritten ? {len(a)}", "{0, i, len(a)}", false},
		// A bound of the first that crosses several: the second must be Maybe.
		{"{0, i} 1..1 {len(a)}", "{0} 5..5 ? {i} 1..1 {len(a)}", true},
		{"{0, i} 1..1 {len(a)}", "{0} 5..5 {i} 1..1 {len(a)}", false},
		{"{0, i, len(a)}", "{0} none ? {i} none or unwritten ? {len(a)}", true},
		{"{0, i, len(a)}", "{0} none ? {i} none or unwritten {len(a)}", false},
		// A Val that is not in the other's: first, in the midst and last.
		{"{0} 1..1 {i} 2..2 {j} 3..3 {len(a)}", "{0} 0..1 {i} 2..3 {j} 3..3 or unwritten {len(a)}", true},
		{"{0} 1..1 {i} 2..2 {j} 3..3 {len(a)}", "{0} 2..2 {i} 2..3 {j} 3..3 {len(a)}", false},
		{"{0} 1..1 {i} 2..2 {j} 3..3 {len(a)}", "{0} 0..1 {i} 3..3 {j} 3..3 {len(a)}", false},
		{"{0} 1..1 {i} 2..2 {j} 3..3 {len(a)}", "{0} 0..1 {i} 2..3 {j} 4..9 {len(a)}", false},
		{"{0} 1..1 or unwritten {i} 2..2 {j} 3..3 {len(a)}", "{0} 1..1 {i} 2..2 {j} 3..3 {len(a)}", false},
		{"{0} 1..1 {i} 2..2 or unwritten {j} 3..3 {len(a)}", "{0} 1..1 {i} 2..2 {j} 3..3 {len(a)}", false},
		{"{0} 1..1 {i} 2..2 {j} 3..3 or unwritten {len(a)}", "{0} 1..1 {i} 2..2 {j} 3..3 {len(a)}", false},
		{"{0} 1..1 {i} 2..2 {j} 3..3 {len(a)}", "{0} 1..1 {i} none ? {j} 3..3 {len(a)}", false},
		{"{0} 1..1 {i} none ? {j} 3..3 {len(a)}", "{0} 1..1 {i} 2..2 ? {j} 3..3 {len(a)}", true},
		{"{0} 1..1 {i} 2..2 {j} 3..3 {len(a)}", "{0} 1..2 {j} 3..3 {len(a)}", true},
		{"{0} 1..1 {i} 4..4 {j} 3..3 {len(a)}", "{0} 1..2 {j} 3..3 {len(a)}", false},
	} {
		wantLeq(t, one.a, one.b, one.want)
	}
}

// Each of the four ways of Maybe, first, in the midst and last.
func TestMaybeInOrder(t *testing.T) {
	for _, one := range []struct {
		a, b string
		want bool
	}{{"", "", true}, {"", " ?", true}, {" ?", "", false}, {" ?", " ?", true}} {
		wantLeq(t, "{0} 1..1"+one.a+" {len(a)}", "{0} 1..1"+one.b+" {len(a)}", one.want)
		wantLeq(t, "{0} 1..1"+one.a+" {i} 2..2 {j} 3..3 {len(a)}", "{0} 1..1"+one.b+" {i} 2..2 {j} 3..3 {len(a)}", one.want)
		wantLeq(t, "{0} 1..1 {i} 2..2"+one.a+" {j} 3..3 {len(a)}", "{0} 1..1 {i} 2..2"+one.b+" {j} 3..3 {len(a)}", one.want)
		wantLeq(t, "{0} 1..1 {i} 2..2 {j} 3..3"+one.a+" {len(a)}", "{0} 1..1 {i} 2..2 {j} 3..3"+one.b+" {len(a)}", one.want)
	}
}

// A term that goes because there are too many crossings is in no common bound.
func TestTooManyCrossingsInOrder(t *testing.T) {
	for way, want := range map[string]bool{
		strings.Repeat("x", 15): true, strings.Repeat(">", 15): true, strings.Repeat("v", 15): true, strings.Repeat(">v", 7) + ">": true, strings.Repeat("v>", 7) + "v": true,
		strings.Repeat(">v", 8): false, strings.Repeat("v>", 8): false, strings.Repeat("x", 14) + ">v": false, strings.Repeat("x", 14) + "v>": false, strings.Repeat(">v", 15): false, strings.Repeat(">", 15) + "v": false,
	} {
		a, b := stairs(way)
		for at := range a.Vals {
			a.Vals[at], a.Maybe[at] = noCell(), true
		}
		for at := range b.Vals {
			b.Maybe[at] = true
		}
		if got := impl.SegLeq(segSize, segLen, a, b); got != want || leqByTerms(a, b) != want {
			t.Fatalf("%s: %v", way, got)
		}
	}
}

// wantJoin: what is joined, and what is widened by steps, told as texts.
func wantJoin(t *testing.T, a, b string, steps []int, join, wide string) {
	t.Helper()
	got := wantMeeting(t, segSize, segLen, seg(t, a), seg(t, b), steps)
	if text := impl.SegText(segSize, segLen, got.join, segNames()); text != join {
		t.Fatalf("%s and %s: join %s, want %s", a, b, text, join)
	}
	if text := impl.SegText(segSize, segLen, got.wide, segNames()); text != wide {
		t.Fatalf("%s and %s: wide %s, want %s", a, b, text, wide)
	}
}

func TestJoinedAndWidenedSegs(t *testing.T) {
	steps := []int{-10, 0, 8, 20}
	for _, one := range [][4]string{
		{"{0, len(a)}", "{0, len(a)}", "{0, len(a)}", "{0, len(a)}"},
		{"{0, i, len(a)}", "{0, j, len(a)}", "{0, len(a)}", "{0, len(a)}"},
		{"{0} 1..3 {len(a)}", "{0} 1..3 {len(a)}", "{0} 1..3 {len(a)}", "{0} 1..3 {len(a)}"},
		{"{0} 1..3 {len(a)}", "{0} 2..2 {len(a)}", "{0} 1..3 {len(a)}", "{0} 1..3 {len(a)}"},
		{"{0} 1..3 {len(a)}", "{0} 2..4 {len(a)}", "{0} 1..4 {len(a)}", "{0} 1..8 {len(a)}"},
		{"{0} 2..4 {len(a)}", "{0} 1..3 {len(a)}", "{0} 1..4 {len(a)}", "{0} 0..4 {len(a)}"},
		{"{0} 1..3 {len(a)}", "{0} -1..9 {len(a)}", "{0} -1..9 {len(a)}", "{0} -10..20 {len(a)}"},
		{"{0} 1..3 {len(a)}", "{0} -11..21 {len(a)}", "{0} -11..21 {len(a)}", "{0} -1000000..1000000 {len(a)}"},
		// No cell and another Val, both ways round.
		{"{0} none ? {len(a)}", "{0} 1..3 {len(a)}", "{0} 1..3 ? {len(a)}", "{0} 1..3 ? {len(a)}"},
		{"{0} 1..3 {len(a)}", "{0} none ? {len(a)}", "{0} 1..3 ? {len(a)}", "{0} 1..3 ? {len(a)}"},
		{"{0} none {len(a)}", "{0} 1..3 or unwritten {len(a)}", "{0} 1..3 or unwritten {len(a)}", "{0} 1..3 or unwritten {len(a)}"},
		{"{0} 1..3 or unwritten {len(a)}", "{0} none {len(a)}", "{0} 1..3 or unwritten {len(a)}", "{0} 1..3 or unwritten {len(a)}"},
		{"{0} none or unwritten {len(a)}", "{0} 1..3 {len(a)}", "{0} 1..3 or unwritten {len(a)}", "{0} 1..3 or unwritten {len(a)}"},
		{"{0} none ? {len(a)}", "{0} none {len(a)}", "{0} none ? {len(a)}", "{0} none ? {len(a)}"},
		{"{0, len(a)}", "{0} 1..3 {len(a)}", "{0} 1..3 ? {len(a)}", "{0} 1..3 ? {len(a)}"},
		{"{0} 1..3 or unwritten {len(a)}", "{0, len(a)}", "{0} 1..3 or unwritten ? {len(a)}", "{0} 1..3 or unwritten ? {len(a)}"},
		{"{0, i} 1..1 {len(a)}", "{0} 7..7 {i} 2..2 {len(a)}", "{0} 7..7 ? {i} 1..2 {len(a)}", "{0} 7..7 ? {i} 1..8 {len(a)}"},
		{"{0} 7..7 {i} 2..2 {len(a)}", "{0, i} 1..1 {len(a)}", "{0} 7..7 ? {i} 1..2 {len(a)}", "{0} 7..7 ? {i} 0..2 {len(a)}"},
		{"{0, i} none or unwritten ? {len(a)}", "{0, i - 1} 7..7 {i} none or unwritten ? {len(a)}", "{0} 7..7 ? {i} none or unwritten ? {len(a)}", "{0} 7..7 ? {i} none or unwritten ? {len(a)}"},
		// What goes together ahead of the two is joined, not widened.
		{"{0} 1..1 {j} 5..5 {len(a)}", "{0} 2..6 {len(a)}", "{0} 1..6 {len(a)}", "{0} 1..8 {len(a)}"},
		{"{0} 2..6 {len(a)}", "{0} 1..1 {j} 9..9 {len(a)}", "{0} 1..9 {len(a)}", "{0} 0..20 {len(a)}"},
		{"{0} 1..1 {i} 2..2 ? {j} 3..3 {len(a)}", "{0} 4..4 {i} 2..2 {j} 5..9 {len(a)}", "{0} 1..4 {i} 2..2 ? {j} 3..9 {len(a)}", "{0} 1..8 {i} 2..2 ? {j} 3..20 {len(a)}"},
		// Crossings that fall back.
		{"{0} 1..1 {i} 2..2 {j} 3..3 {len(a)}", "{0} 5..5 {j} 6..6 {i} 7..7 {len(a)}", "{0} 1..6 {i} 2..7 {len(a)}", "{0} 1..8 {i} 2..8 {len(a)}"},
		{"{0} 5..5 {j} 6..6 {i} 7..7 {len(a)}", "{0} 1..1 {i} 2..2 {j} 3..3 {len(a)}", "{0} 1..5 {j} 3..7 {len(a)}", "{0} 0..5 {j} 0..7 {len(a)}"},
	} {
		wantJoin(t, one[0], one[1], steps, one[2], one[3])
	}
}

// Each of the four ways of Maybe and of Sure, joined and widened, first, in the
// midst and last.
func TestMaybeAndSureJoined(t *testing.T) {
	for bits := range 16 {
		flags := func(text string, at int) string {
			if bits>>at&1 == 1 {
				text += " or unwritten"
			}
			if bits>>(at+1)&1 == 1 {
				text += " ?"
			}
			return text
		}
		both := func(text string) string {
			if bits&5 != 0 {
				text += " or unwritten"
			}
			if bits&10 != 0 {
				text += " ?"
			}
			return text
		}
		one, two := flags("1..2", 0), flags("1..6", 2)
		join, wide := both("1..6"), both("1..8")
		wantJoin(t, "{0} "+one+" {len(a)}", "{0} "+two+" {len(a)}", []int{8}, "{0} "+join+" {len(a)}", "{0} "+wide+" {len(a)}")
		wantJoin(t, "{0} "+one+" {i} 3..3 {len(a)}", "{0} "+two+" {i} 3..3 {len(a)}", []int{8}, "{0} "+join+" {i} 3..3 {len(a)}", "{0} "+wide+" {i} 3..3 {len(a)}")
		wantJoin(t, "{0} 3..3 {i} "+one+" {len(a)}", "{0} 3..3 {i} "+two+" {len(a)}", []int{8}, "{0} 3..3 {i} "+join+" {len(a)}", "{0} 3..3 {i} "+wide+" {len(a)}")
		wantJoin(t, "{0} 3..3 {i} "+one+" {j} 4..4 {len(a)}", "{0} 3..3 {i} "+two+" {j} 4..4 {len(a)}", []int{8}, "{0} 3..3 {i} "+join+" {j} 4..4 {len(a)}", "{0} 3..3 {i} "+wide+" {j} 4..4 {len(a)}")
		// No number of either, so that the flags alone are brought together.
		one, two = flags("none", 0), flags("none", 2)
		wantJoin(t, "{0} "+one+" {len(a)}", "{0} "+two+" {len(a)}", nil, "{0} "+both("none")+" {len(a)}", "{0} "+both("none")+" {len(a)}")
	}
}

func TestStepsOfSegs(t *testing.T) {
	one, two, alone := seg(t, "{0} 1..2 {i} 3..3 ? {len(a)}"), seg(t, "{0} 0..5 {i} 3..3 {len(a)}"), seg(t, "{0, len(a)}")
	pairs := [][2]impl.Seg{{one, two}, {two, one}, {one, one}, {alone, two}, {one, alone}, {alone, alone}}
	right := append(someSteps(), mostSteps(-19, 19), mostSteps(-20, 20), mostSteps(bound-38, 20), []int{-bound, bound}, []int{5}, []int{0, 5})
	for _, steps := range right {
		for _, pair := range pairs {
			wantMeeting(t, segSize, segLen, pair[0], pair[1], steps)
		}
	}
	wrong := [][]int{
		mostSteps(-20, 21), mostSteps(0, 500), {5, 5}, {0, 0, 1}, {0, 1, 1}, {1, 0}, {0, 2, 1}, {5, 6, 5}, {bound + 1}, {0, bound + 1}, {-bound - 1}, {-bound - 1, 0}, {math.MinInt}, {math.MaxInt}, {math.MinInt, math.MaxInt}, {bound, -bound},
	}
	for _, steps := range wrong {
		for _, pair := range pairs {
			if got := impl.SegWiden(segSize, segLen, pair[0], pair[1], steps); !isNoSeg(got) {
				t.Fatalf("%v and %v by %v: %v", pair[0], pair[1], steps, got)
			}
		}
	}
	wantJoin(t, "{0} 1..2 {i} 3..3 ? {len(a)}", "{0} 0..5 {i} 3..3 {len(a)}", mostSteps(-14, 20), "{0} 0..5 {i} 3..3 ? {len(a)}", "{0} 0..6 {i} 3..3 ? {len(a)}")
	wantJoin(t, "{0} 1..2 {i} 3..3 ? {len(a)}", "{0} 0..5 {i} 3..3 {len(a)}", nil, "{0} 0..5 {i} 3..3 ? {len(a)}", "{0} -1000000..1000000 {i} 3..3 ? {len(a)}")
}

// A row whose ranges grow from round to round is widened only so many times.
func TestWideningOfSegsEnds(t *testing.T) {
	next := draws(1111)
	for range 30 {
		size := 3 + next(6)
		l := 1 + next(size-1)
		steps := mostSteps(-next(12), next(8))
		now := someRowAround(next, l, someState(next, size, l))
		changes := 0
		for range 200 {
			grown := changed(now, func(s *impl.Seg) {
				for at, v := range s.Vals {
					s.Vals[at] = impl.ValJoin(v, sure(span(-next(20), next(20))))
				}
			})
			wide := impl.SegWiden(size, l, now, grown, steps)
			if !impl.SegLeq(size, l, grown, wide) {
				t.Fatalf("%v is not in %v", grown, wide)
			}
			if !sameSeg(wide, now) {
				changes++
			}
			now = wide
		}
		if changes > len(now.Vals)*(2*len(steps)+3) {
			t.Fatalf("%v: %d changes", now, changes)
		}
	}
}

// hadBy: for each state whether a Seg has it.
func hadBy(size, l int, s impl.Seg, states []stateOf) []bool {
	var list []bool
	for _, one := range states {
		list = append(list, impl.SegHas(size, l, s, one.vals, one.cells))
	}
	return list
}

// wantStates: promise 10: what a had the first has, and the join and what is
// widened; what b had the second, and these two; and of two of which the one is
// in the other the other has all states of the one. It tells how many states
// were had, and how often one was in another.
func wantStates(t *testing.T, size, l int, a, b impl.Seg, steps []int, states []stateOf) (int, int) {
	t.Helper()
	got := wantMeeting(t, size, l, a, b, steps)
	rows := []impl.Seg{a, b, got.first, got.second, got.join, got.wide}
	var had [][]bool
	for _, s := range rows {
		had = append(had, hadBy(size, l, s, states))
	}
	count, orders := 0, 0
	for at, state := range states {
		if had[0][at] && !(had[2][at] && had[4][at] && had[5][at]) || had[1][at] && !(had[3][at] && had[4][at] && had[5][at]) {
			t.Fatalf("%v and %v: %v is lost: %v", a, b, state, got)
		}
		if had[0][at] || had[1][at] {
			count++
		}
	}
	for i, one := range rows {
		for j, other := range rows {
			if i == j || !impl.SegLeq(size, l, one, other) {
				continue
			}
			if i < 2 && j < 2 {
				orders++
			}
			for at, state := range states {
				if had[i][at] && !had[j][at] {
					t.Fatalf("%v is in %v, which has not %v", one, other, state)
				}
			}
		}
	}
	return count, orders
}

// Promise 10: of many pairs of small rows, in all small states.
func TestSmallRowsMeet(t *testing.T) {
	var states []stateOf
	for _, list := range cellRows(cellsOver([]int{1}), 3) {
		for i := -1; i <= 3; i++ {
			states = append(states, stateOf{[]int{0, i, len(list)}, list})
		}
	}
	vals := []impl.Val{noCell(), sure(span(1, 1)), unsure(noRange())}
	var all []impl.Seg
	for _, bounds := range smallBounds() {
		all = append(all, smallRows(bounds, vals)...)
	}
	next := draws(110)
	some := func() impl.Seg { return all[(next(1000)*1000+next(1000))%len(all)] }
	had, orders := 0, 0
	for range 4000 {
		a, b := some(), some()
		if next(3) == 0 {
			// The same bounds, with something else between.
			b = changed(a, func(s *impl.Seg) {
				for at := range s.Vals {
					if next(2) == 0 {
						s.Vals[at], s.Maybe[at] = vals[next(3)], next(3) > 0
					}
				}
			})
		}
		count, order := wantStates(t, 3, 2, a, b, []int{1}, states)
		had, orders = had+count, orders+order
	}
	if had < 3000 || orders < 300 {
		t.Fatalf("%d states were had, %d times one was in another", had, orders)
	}
}

// looser: a Seg that says less: without some terms, with more numbers, and with
// Maybe and without Sure here and there.
func looser(next func(int) int, size, l int, s impl.Seg) impl.Seg {
	var gone []impl.Sym
	for _, term := range allTerms(s) {
		if next(4) == 0 {
			gone = append(gone, term)
		}
	}
	return changed(impl.SegDrop(size, l, s, gone), func(s *impl.Seg) {
		for at, v := range s.Vals {
			if next(3) == 0 {
				s.Vals[at] = impl.ValJoin(v, []impl.Val{sure(span(-1, 1)), unsure(noRange()), noCell(), sure(span(4, 5))}[next(4)])
			}
			s.Maybe[at] = s.Maybe[at] || next(4) == 0
		}
	})
}

// Promise 10: of many pairs of rows with many terms, around states that are the
// same, near to one another and far apart.
func TestRowsMeet(t *testing.T) {
	next := draws(1011)
	had, orders, back, several, long := 0, 0, 0, 0, 0
	for range 2500 {
		size := 2 + next(12)
		l := 1 + next(size-1)
		states := []stateOf{someState(next, size, l)}
		states = append(states, states[0].near(next, l), someState(next, size, l))
		a := someRowAround(next, l, states[0])
		b := someRowAround(next, l, states[next(3)])
		if next(4) == 0 {
			b = looser(next, size, l, a)
			if !impl.SegLeq(size, l, a, b) {
				t.Fatalf("%v is not in %v", a, b)
			}
		}
		for len(states) < 16 {
			states = append(states, states[next(len(states))].near(next, l))
		}
		count, order := wantStates(t, size, l, a, b, someSteps()[next(len(someSteps()))], states)
		had, orders = had+count, orders+order
		all, kept := crossingsByTerms(a, b), keptByPairs(a, b)
		back += len(all) - len(kept)
		for at := 1; at < len(kept); at++ {
			if kept[at].i == kept[at-1].i || kept[at].j == kept[at-1].j {
				several++
			}
		}
		if len(kept) > 8 {
			long++
		}
	}
	if had < 10000 || orders < 500 || back < 100 || several < 1000 || long < 100 {
		t.Fatalf("%d states were had, %d in order, %d crossings fell back, %d of a bound twice, %d rows are long", had, orders, back, several, long)
	}
}

// shuffled: a Seg whose terms are drawn from a few into bounds in any order, so
// that crossings fall back often.
func shuffled(next func(int) int, l int) impl.Seg {
	count := 1 + next(16)
	s := impl.Seg{Bounds: make([][]impl.Sym, count)}
	taken := 0
	put := func(at int, term impl.Sym) {
		s.Bounds[at] = append(s.Bounds[at], term)
		taken++
	}
	put(0, sym(0, 0))
	put(count-1, sym(l, 0))
	var spare []impl.Sym
	for num := 1; num <= 60; num++ {
		spare = append(spare, sym(next(2)+num%2, 100+num))
	}
	for at := range spare {
		other := at + next(min(len(spare)-at, 1+next(60)))
		spare[at], spare[other] = spare[other], spare[at]
	}
	for at := 1; at < count-1; at++ {
		put(at, spare[taken])
	}
	for taken < 40 && next(20) > 0 {
		put(next(count), spare[taken])
	}
	for at := range s.Bounds {
		slices.SortFunc(s.Bounds[at], func(a, b impl.Sym) int { return 10000*(a.V-b.V) + a.C - b.C })
		if at > 0 {
			s.Vals = append(s.Vals, bothWays([]impl.Range{noRange(), span(at, at+next(5)), span(-at, 0)})[next(6)])
			s.Maybe = append(s.Maybe, next(2) == 0)
		}
	}
	return s
}

// Over rows whose bounds stand in any order: what is kept is as told otherwise.
func TestShuffledRowsMeet(t *testing.T) {
	next := draws(11011)
	back, cut, kept := 0, 0, 0
	for range 5000 {
		a, b := shuffled(next, segLen), shuffled(next, segLen)
		if next(3) == 0 {
			// Terms of the one in the bounds of the other, as stairs have them.
			way := ""
			for x, y := 0, 0; x < 15 && y < 15; {
				step := next(3)
				way, x, y = way+string(">vx"[step]), x+(step+1)%2|step/2, y+(step+1)/2
			}
			a, b = stairs(way)
		}
		wantMeeting(t, segSize, segLen, a, b, []int{-3, 0, 3})
		all, left := crossingsByTerms(a, b), keptByPairs(a, b)
		falls := 0
		for at, one := range all {
			if slices.ContainsFunc(all[:at], func(other crossed) bool { return other.j > one.j }) {
				falls++
			}
		}
		back, kept = back+falls, kept+len(left)
		if len(all)-falls > 16 {
			cut++
		}
	}
	if back < 4000 || cut < 300 || kept < 20000 {
		t.Fatalf("%d crossings fell back, %d times there were too many, %d were kept", back, cut, kept)
	}
}

// Every answer is new memory, no two lists of one share any, nothing is written
// into an argument nor behind it, and what is behind it is not read.
func TestMeetingArgumentsAreKept(t *testing.T) {
	list := okRows(t)
	a1, b1 := stairs(strings.Repeat(">v", 15))
	a2, b2 := stairs(strings.Repeat("x>v", 5))
	list = append(list, a1, b1, a2, b2)
	room := []int{-4, 0, 4, 3, 2}
	for _, one := range list {
		for _, other := range list {
			a, b := roomy(one), roomy(other)
			terms1, vals1, maybe1 := behind(a)
			terms2, vals2, maybe2 := behind(b)
			first, second := alignByTerms(one, other)
			for range 2 {
				gotA, gotB := impl.SegAlign(segSize, segLen, a, b)
				wipeSeg(t, gotA)
				wantSeg(t, gotB, second, "behind the first", one, other)
				gotA, gotB = impl.SegAlign(segSize, segLen, a, b)
				wipeSeg(t, gotB)
				wantSeg(t, gotA, first, "behind the second", one, other)
				join, wide := impl.SegJoin(segSize, segLen, a, b), impl.SegWiden(segSize, segLen, a, b, room[:3])
				wantSeg(t, join, joinByTerms(one, other), one, other)
				wantSeg(t, wide, widenByTerms(one, other, room[:3]), one, other)
				wipeSeg(t, join)
				wipeSeg(t, wide)
				if impl.SegLeq(segSize, segLen, a, b) != leqByTerms(one, other) {
					t.Fatal(one, other)
				}
			}
			terms3, vals3, maybe3 := behind(a)
			terms4, vals4, maybe4 := behind(b)
			if !sameSeg(a, one) || !slices.Equal(terms1, terms3) || !slices.Equal(vals1, vals3) || !slices.Equal(maybe1, maybe3) {
				t.Fatalf("%v has become %v", one, a)
			}
			if !sameSeg(b, other) || !slices.Equal(terms2, terms4) || !slices.Equal(vals2, vals4) || !slices.Equal(maybe2, maybe4) {
				t.Fatalf("%v has become %v", other, b)
			}
		}
	}
	if !slices.Equal(room, []int{-4, 0, 4, 3, 2}) {
		t.Fatal(room)
	}
}

// One Seg on both sides, and bounds of the two that share memory.
func TestSegsThatShareMemory(t *testing.T) {
	for _, s := range okRows(t) {
		before := copySeg(s)
		first, second := impl.SegAlign(segSize, segLen, s, s)
		wipeSeg(t, first)
		wantSeg(t, second, before)
		wipeSeg(t, second)
		wipeSeg(t, impl.SegJoin(segSize, segLen, s, s))
		wipeSeg(t, impl.SegWiden(segSize, segLen, s, s, nil))
		wantSeg(t, s, before)
	}
	all := []impl.Sym{sym(0, 0), sym(0, 1), sym(1, 0), sym(1, 4), sym(3, 0)}
	vals, maybe := []impl.Val{sure(span(1, 1)), unsure(span(2, 2)), {}}, []bool{true, false, true}
	a := impl.Seg{Bounds: [][]impl.Sym{all[:2], all[2:3], all[3:]}, Vals: vals[:2], Maybe: maybe[:2]}
	b := impl.Seg{Bounds: [][]impl.Sym{all[:1], all[1:3], all[3:4], all[4:]}, Vals: vals, Maybe: maybe}
	for range 2 {
		got := wantMeeting(t, segSize, segLen, a, b, nil)
		for _, s := range []impl.Seg{got.first, got.second, got.join, got.wide} {
			wipeSeg(t, s)
		}
		if !slices.Equal(all, []impl.Sym{sym(0, 0), sym(0, 1), sym(1, 0), sym(1, 4), sym(3, 0)}) || vals[0] != sure(span(1, 1)) || !maybe[0] {
			t.Fatal(all, vals, maybe)
		}
	}
}

// What is told does not hang on how goroutines run, and none of them is left.
func TestMeetingsAtTheSameTime(t *testing.T) {
	next := draws(211)
	var pairs [][2]impl.Seg
	var want []meeting
	for range 40 {
		a, b := shuffled(next, segLen), shuffled(next, segLen)
		pairs, want = append(pairs, [2]impl.Seg{a, b}), append(want, wantMeeting(t, segSize, segLen, a, b, nil))
	}
	before := runtime.NumGoroutine()
	var all sync.WaitGroup
	for range 16 {
		all.Add(1)
		go func() {
			defer all.Done()
			for at, pair := range pairs {
				first, second := impl.SegAlign(segSize, segLen, pair[0], pair[1])
				join, wide := impl.SegJoin(segSize, segLen, pair[0], pair[1]), impl.SegWiden(segSize, segLen, pair[0], pair[1], nil)
				if !sameSeg(first, want[at].first) || !sameSeg(second, want[at].second) || !sameSeg(join, want[at].join) || !sameSeg(wide, want[at].wide) {
					t.Errorf("%v and %v are told otherwise", pair[0], pair[1])
				}
			}
		}()
	}
	all.Wait()
	// One that is done may still be about to end.
	for range 1000000 {
		if runtime.NumGoroutine() <= before {
			return
		}
		runtime.Gosched()
	}
	t.Fatalf("%d goroutines, %d before", runtime.NumGoroutine(), before)
}
