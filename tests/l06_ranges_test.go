package tests

import (
	"math"
	"slices"
	"strconv"
	"strings"
	"testing"

	"loop.example/g00093/impl"
)

const bound = 1000000

func span(lo, hi int) impl.Range { return impl.Range{Lo: lo, Hi: hi} }

func noRange() impl.Range { return impl.Range{Lo: 1, Hi: 0} }

// rangesOver: none, and all ranges whose ends stand in the rising list.
func rangesOver(nums []int) []impl.Range {
	list := []impl.Range{noRange()}
	for i, lo := range nums {
		for _, hi := range nums[i:] {
			list = append(list, span(lo, hi))
		}
	}
	return list
}

// run: the numbers from lo to hi.
func run(lo, hi int) []int {
	var nums []int
	for num := lo; num <= hi; num++ {
		nums = append(nums, num)
	}
	return nums
}

// rows: numbers side by side, about 0 and at both bounds.
func rows() [][]int {
	return [][]int{run(-4, 4), run(-bound, -bound+4), run(bound-4, bound)}
}

// farEnds: numbers about 0, about those whose products meet the bounds, and at
// the bounds.
func farEnds() []int {
	return []int{-bound, -bound + 1, -500000, -1001, -1000, -2, -1, 0, 1, 2, 999, 1000, 500001, bound - 1, bound}
}

func wrongRanges() []impl.Range {
	const least, most = math.MinInt, math.MaxInt
	return []impl.Range{
		span(2, 0), span(0, -1), span(1, -1), span(2, 1), span(5, 1), span(bound, -bound), span(0, -bound),
		span(-bound-1, 0), span(-bound-1, bound), span(-bound-1, -bound-1), span(-bound-1, -bound), span(-bound-2, -bound-1),
		span(0, bound+1), span(-bound, bound+1), span(bound+1, bound+1), span(bound, bound+1), span(bound+1, bound+2),
		span(bound+1, bound), span(-bound, -bound-1), span(1, -bound-1), span(bound+1, 0),
		span(least, most), span(most, least), span(least, least), span(most, most), span(least, 0), span(0, most),
		span(1, least), span(most, 0), span(least, bound), span(-bound, most), span(least+1, most), span(least, -1),
	}
}

// in: the numbers of the list that are between the ends.
func in(nums []int, r impl.Range) []int {
	var list []int
	for _, num := range nums {
		if r.Lo <= num && num <= r.Hi {
			list = append(list, num)
		}
	}
	return list
}

// around: from the least to the greatest of the numbers.
func around(nums []int) impl.Range {
	if len(nums) == 0 {
		return noRange()
	}
	return span(slices.Min(nums), slices.Max(nums))
}

// within: what is left of a range between the bounds.
func within(r impl.Range) impl.Range {
	switch {
	case r.Lo > r.Hi, r.Lo > bound, r.Hi < -bound:
		return noRange()
	case r.Lo < -bound:
		return within(span(-bound, r.Hi))
	case r.Hi > bound:
		return span(r.Lo, bound)
	}
	return r
}

func wantRange(t *testing.T, got, want impl.Range, about ...any) {
	t.Helper()
	if got != want {
		t.Fatalf("%v: %v, want %v", about, got, want)
	}
	if !impl.RangeOk(got) {
		t.Fatalf("%v: %v is not ok", about, got)
	}
}

func TestRangeConstants(t *testing.T) {
	if impl.MaxSteps != 20 {
		t.Fatal(impl.MaxSteps)
	}
}

func TestRangeOk(t *testing.T) {
	for _, r := range append(rangesOver(farEnds()), rangesOver(run(-4, 4))...) {
		if !impl.RangeOk(r) {
			t.Fatalf("%v is not ok", r)
		}
	}
	for _, r := range wrongRanges() {
		if impl.RangeOk(r) {
			t.Fatalf("%v is ok", r)
		}
	}
	if !impl.RangeOk(impl.Range{}) {
		t.Fatal("the zero Range has the number 0")
	}
}

func TestRangeHas(t *testing.T) {
	nums := append(farEnds(), -bound-1, bound+1, math.MinInt, math.MaxInt)
	for _, r := range rangesOver(farEnds()) {
		for _, x := range nums {
			want := r != noRange() && r.Lo <= x && x <= r.Hi
			if impl.RangeHas(r, x) != want {
				t.Fatalf("%v and %d: want %v", r, x, want)
			}
		}
	}
	for _, r := range wrongRanges() {
		for _, x := range append(nums, r.Lo, r.Hi) {
			if impl.RangeHas(r, x) {
				t.Fatalf("%v has %d", r, x)
			}
		}
	}
}

// Ranges with ends among the same numbers are told apart by which of these
// they have, and so are the least range with all of two and what both have.
func TestOrderOfRanges(t *testing.T) {
	for _, nums := range append(rows(), farEnds()) {
		all := rangesOver(nums)
		for _, a := range all {
			for _, b := range all {
				ofA, ofB := in(nums, a), in(nums, b)
				isIn := !slices.ContainsFunc(ofA, func(x int) bool { return !slices.Contains(ofB, x) })
				if impl.RangeLeq(a, b) != isIn {
					t.Fatalf("%v in %v: want %v", a, b, isIn)
				}
				wantRange(t, impl.RangeJoin(a, b), around(slices.Concat(ofA, ofB)), "join", a, b)
				both := slices.DeleteFunc(slices.Clone(ofA), func(x int) bool { return !slices.Contains(ofB, x) })
				wantRange(t, impl.RangeMeet(a, b), around(both), "meet", a, b)
			}
		}
	}
}

// Promise 7: each is in the join, no lesser range has both; the meeting is in
// each, no greater range is.
func TestJoinIsLeastAndMeetGreatest(t *testing.T) {
	for _, nums := range append(rows(), []int{-bound, -1, 0, 1, bound}) {
		all := rangesOver(nums)
		for _, a := range all {
			for _, b := range all {
				join, meet := impl.RangeJoin(a, b), impl.RangeMeet(a, b)
				if !impl.RangeLeq(a, join) || !impl.RangeLeq(b, join) || !impl.RangeLeq(meet, a) || !impl.RangeLeq(meet, b) {
					t.Fatalf("%v and %v: join %v, meet %v", a, b, join, meet)
				}
				for _, c := range all {
					if impl.RangeLeq(a, c) && impl.RangeLeq(b, c) && !impl.RangeLeq(join, c) {
						t.Fatalf("%v and %v: join %v, but %v has both", a, b, join, c)
					}
					if impl.RangeLeq(c, a) && impl.RangeLeq(c, b) && !impl.RangeLeq(c, meet) {
						t.Fatalf("%v and %v: meet %v, but %v is in both", a, b, meet, c)
					}
				}
			}
		}
	}
}

// wantSums: from the least to the greatest of what comes of these numbers, the
// ends of the two among them, and each that is within the bounds.
func wantSums(t *testing.T, a, b impl.Range, ofA, ofB []int) {
	t.Helper()
	var opposites, sums, differences, products []int
	for _, x := range ofA {
		opposites = append(opposites, -x)
		for _, y := range ofB {
			sums, differences, products = append(sums, x+y), append(differences, x-y), append(products, x*y)
		}
	}
	for _, one := range []struct {
		name string
		got  impl.Range
		nums []int
	}{
		{"neg", impl.RangeNeg(a), opposites},
		{"add", impl.RangeAdd(a, b), sums},
		{"sub", impl.RangeSub(a, b), differences},
		{"mul", impl.RangeMul(a, b), products},
	} {
		wantRange(t, one.got, within(around(one.nums)), one.name, a, b)
		for _, num := range one.nums {
			if -bound <= num && num <= bound && !impl.RangeHas(one.got, num) {
				t.Fatalf("%s of %v and %v: %v has no %d", one.name, a, b, one.got, num)
			}
		}
	}
}

// Promise 6, over all numbers of small ranges, also of those at the bounds.
func TestSumsOfSmallRanges(t *testing.T) {
	for _, first := range rows() {
		for _, second := range rows() {
			for _, a := range rangesOver(first) {
				for _, b := range rangesOver(second) {
					wantSums(t, a, b, in(first, a), in(second, b))
				}
			}
		}
	}
}

// Promise 6, over some numbers of great ranges, their ends among them.
func TestSumsOfGreatRanges(t *testing.T) {
	nums := farEnds()
	for _, a := range rangesOver(nums) {
		for _, b := range rangesOver(nums) {
			wantSums(t, a, b, in(nums, a), in(nums, b))
		}
	}
}

func TestCutDown(t *testing.T) {
	all, least, most := span(-bound, bound), span(-bound, -bound), span(bound, bound)
	for i, one := range []struct{ got, want impl.Range }{
		{impl.RangeAdd(span(0, bound), span(0, 1)), span(0, bound)},
		{impl.RangeAdd(span(bound-1, bound), span(1, 5)), most},
		{impl.RangeAdd(most, span(1, 1)), noRange()},
		{impl.RangeAdd(most, span(0, 1)), most},
		{impl.RangeAdd(most, most), noRange()},
		{impl.RangeAdd(span(-bound, 0), span(-1, 0)), span(-bound, 0)},
		{impl.RangeAdd(span(-bound, 1-bound), span(-5, -1)), least},
		{impl.RangeAdd(least, span(-1, -1)), noRange()},
		{impl.RangeAdd(least, least), noRange()},
		{impl.RangeAdd(all, span(-1, 1)), all},
		{impl.RangeAdd(all, all), all},
		{impl.RangeAdd(all, most), span(0, bound)},
		{impl.RangeAdd(least, most), span(0, 0)},
		{impl.RangeSub(span(0, bound), span(-1, 0)), span(0, bound)},
		{impl.RangeSub(most, span(-1, -1)), noRange()},
		{impl.RangeSub(most, span(-1, 0)), most},
		{impl.RangeSub(least, span(1, 1)), noRange()},
		{impl.RangeSub(least, most), noRange()},
		{impl.RangeSub(most, least), noRange()},
		{impl.RangeSub(all, all), all},
		{impl.RangeSub(all, least), span(0, bound)},
		{impl.RangeSub(most, most), span(0, 0)},
		{impl.RangeMul(span(0, 1000), span(0, 1001)), span(0, bound)},
		{impl.RangeMul(span(0, 1000), span(0, 1000)), span(0, bound)},
		{impl.RangeMul(span(-1000, 0), span(0, 1001)), span(-bound, 0)},
		{impl.RangeMul(span(-1000, 1000), span(1001, 1001)), all},
		{impl.RangeMul(span(1000, 1000), span(1000, 1001)), most},
		{impl.RangeMul(span(-1000, -1000), span(1000, 1001)), least},
		{impl.RangeMul(span(1000, 1000), span(1001, 1001)), noRange()},
		{impl.RangeMul(span(-1001, -1000), span(1001, 1002)), noRange()},
		{impl.RangeMul(span(2, 2), span(500000, 500001)), most},
		{impl.RangeMul(span(2, 2), span(500001, 500001)), noRange()},
		{impl.RangeMul(all, all), all},
		{impl.RangeMul(all, span(0, 0)), span(0, 0)},
		{impl.RangeMul(all, span(-1, -1)), all},
		{impl.RangeMul(most, most), noRange()},
		{impl.RangeMul(most, least), noRange()},
		{impl.RangeMul(least, least), noRange()},
		{impl.RangeMul(span(-2, 3), span(-1, 4)), span(-8, 12)},
		{impl.RangeMul(span(-3, -2), span(-7, -5)), span(10, 21)},
		{impl.RangeNeg(all), all},
		{impl.RangeNeg(least), most},
		{impl.RangeNeg(most), least},
		{impl.RangeNeg(span(-bound, 3)), span(-3, bound)},
	} {
		wantRange(t, one.got, one.want, i)
	}
}

// holds: whether a condition of this kind is so of two numbers.
func holds(kind, x, y int) bool {
	switch kind {
	case impl.CdLess:
		return x < y
	case impl.CdMost:
		return x <= y
	case impl.CdMore:
		return x > y
	case impl.CdLeast:
		return x >= y
	case impl.CdSame:
		return x == y
	}
	return x != y
}

// Promise 6: what is left has just the numbers for which the condition holds
// with some number of the other, and, of CdOther, those between.
func TestGuardsOfSmallRanges(t *testing.T) {
	for _, nums := range rows() {
		for kind := impl.CdLess; kind <= impl.CdOther; kind++ {
			for _, a := range rangesOver(nums) {
				for _, b := range rangesOver(nums) {
					var leftA, leftB []int
					for _, x := range in(nums, a) {
						for _, y := range in(nums, b) {
							if holds(kind, x, y) {
								leftA, leftB = append(leftA, x), append(leftB, y)
							}
						}
					}
					p, q := impl.RangeGuard(kind, a, b)
					wantRange(t, p, around(leftA), kind, a, b, "first")
					wantRange(t, q, around(leftB), kind, a, b, "second")
				}
			}
		}
	}
}

// Promise 6: numbers for which a condition holds are left, and none comes new.
func TestGuardsOfGreatRanges(t *testing.T) {
	nums := farEnds()
	for kind := impl.CdLess; kind <= impl.CdOther; kind++ {
		for _, a := range rangesOver(nums) {
			for _, b := range rangesOver(nums) {
				p, q := impl.RangeGuard(kind, a, b)
				if !impl.RangeLeq(p, a) || !impl.RangeLeq(q, b) || (p == noRange()) != (q == noRange()) {
					t.Fatalf("%d %v %v: %v %v", kind, a, b, p, q)
				}
				for _, x := range in(nums, a) {
					for _, y := range in(nums, b) {
						if holds(kind, x, y) && (!impl.RangeHas(p, x) || !impl.RangeHas(q, y)) {
							t.Fatalf("%d %v %v: %v %v without %d %d", kind, a, b, p, q, x, y)
						}
					}
				}
			}
		}
	}
}

func TestGuardOfEachKind(t *testing.T) {
	none, all := noRange(), span(-bound, bound)
	for i, one := range []struct {
		kind       int
		a, b, p, q impl.Range
	}{
		{impl.CdLess, span(0, 10), span(0, 5), span(0, 4), span(1, 5)},
		{impl.CdLess, span(0, 5), span(5, 9), span(0, 5), span(5, 9)},
		{impl.CdLess, span(0, 6), span(-3, 1), span(0, 0), span(1, 1)},
		{impl.CdLess, span(5, 9), span(0, 5), none, none},
		{impl.CdLess, span(5, 9), span(0, 4), none, none},
		{impl.CdLess, span(0, 4), span(7, 9), span(0, 4), span(7, 9)},
		{impl.CdLess, all, all, span(-bound, bound-1), span(1-bound, bound)},
		{impl.CdLess, span(bound, bound), all, none, none},
		{impl.CdLess, all, span(-bound, -bound), none, none},
		{impl.CdMost, span(0, 10), span(0, 5), span(0, 5), span(0, 5)},
		{impl.CdMost, span(5, 9), span(0, 5), span(5, 5), span(5, 5)},
		{impl.CdMost, span(5, 9), span(0, 4), none, none},
		{impl.CdMost, span(0, 4), span(7, 9), span(0, 4), span(7, 9)},
		{impl.CdMost, all, all, all, all},
		{impl.CdMost, span(bound, bound), all, span(bound, bound), span(bound, bound)},
		{impl.CdMore, span(0, 5), span(0, 10), span(1, 5), span(0, 4)},
		{impl.CdMore, span(0, 3), span(3, 9), none, none},
		{impl.CdMore, span(0, 3), span(4, 9), none, none},
		{impl.CdMore, span(3, 9), span(0, 3), span(3, 9), span(0, 3)},
		{impl.CdMore, span(7, 9), span(0, 3), span(7, 9), span(0, 3)},
		{impl.CdMore, all, all, span(1-bound, bound), span(-bound, bound-1)},
		{impl.CdLeast, span(0, 3), span(2, 9), span(2, 3), span(2, 3)},
		{impl.CdLeast, span(0, 3), span(3, 9), span(3, 3), span(3, 3)},
		{impl.CdLeast, span(0, 3), span(4, 9), none, none},
		{impl.CdLeast, span(7, 9), span(0, 3), span(7, 9), span(0, 3)},
		{impl.CdLeast, span(-bound, -bound), all, span(-bound, -bound), span(-bound, -bound)},
		{impl.CdSame, span(0, 5), span(4, 9), span(4, 5), span(4, 5)},
		{impl.CdSame, span(0, 4), span(4, 9), span(4, 4), span(4, 4)},
		{impl.CdSame, span(0, 3), span(4, 9), none, none},
		{impl.CdSame, span(0, 9), span(2, 3), span(2, 3), span(2, 3)},
		{impl.CdOther, span(0, 5), span(5, 5), span(0, 4), span(5, 5)},
		{impl.CdOther, span(0, 5), span(0, 0), span(1, 5), span(0, 0)},
		{impl.CdOther, span(0, 5), span(3, 3), span(0, 5), span(3, 3)},
		{impl.CdOther, span(0, 5), span(6, 6), span(0, 5), span(6, 6)},
		{impl.CdOther, span(5, 5), span(0, 5), span(5, 5), span(0, 4)},
		{impl.CdOther, span(0, 0), span(0, 5), span(0, 0), span(1, 5)},
		{impl.CdOther, span(3, 3), span(0, 5), span(3, 3), span(0, 5)},
		{impl.CdOther, span(3, 3), span(3, 3), none, none},
		{impl.CdOther, span(3, 3), span(4, 4), span(3, 3), span(4, 4)},
		// What is left of the one is not taken out of the other anew.
		{impl.CdOther, span(3, 3), span(3, 4), span(3, 3), span(4, 4)},
		{impl.CdOther, span(3, 4), span(4, 4), span(3, 3), span(4, 4)},
		{impl.CdOther, span(3, 4), span(3, 4), span(3, 4), span(3, 4)},
		{impl.CdOther, all, span(bound, bound), span(-bound, bound-1), span(bound, bound)},
		{impl.CdOther, span(-bound, -bound), all, span(-bound, -bound), span(1-bound, bound)},
		{impl.CdOther, span(bound, bound), span(bound, bound), none, none},
		{impl.CdOther, span(-bound, -bound), span(-bound, -bound), none, none},
		{impl.CdOther, span(0, 0), span(0, 0), none, none},
	} {
		p, q := impl.RangeGuard(one.kind, one.a, one.b)
		wantRange(t, p, one.p, i, one, "first")
		wantRange(t, q, one.q, i, one, "second")
	}
}

func TestGuardOfOtherKinds(t *testing.T) {
	kinds := append(run(-20, impl.CdLess-1), run(impl.CdOther+1, 60)...)
	for _, kind := range append(kinds, math.MinInt, math.MaxInt, impl.CdLess+1<<32) {
		for _, a := range rangesOver(run(-1, 1)) {
			for _, b := range rangesOver(run(0, 2)) {
				p, q := impl.RangeGuard(kind, a, b)
				wantRange(t, p, noRange(), kind, a, b)
				wantRange(t, q, noRange(), kind, a, b)
			}
		}
	}
}

// wantNothing: what every function tells of two ranges of which one is none or
// not ok, where none is told.
func wantNothing(t *testing.T, a, b impl.Range) {
	t.Helper()
	wantRange(t, impl.RangeMeet(a, b), noRange(), "meet", a, b)
	wantRange(t, impl.RangeAdd(a, b), noRange(), "add", a, b)
	wantRange(t, impl.RangeSub(a, b), noRange(), "sub", a, b)
	wantRange(t, impl.RangeMul(a, b), noRange(), "mul", a, b)
	for kind := impl.CdLess; kind <= impl.CdOther; kind++ {
		p, q := impl.RangeGuard(kind, a, b)
		wantRange(t, p, noRange(), kind, a, b)
		wantRange(t, q, noRange(), kind, a, b)
	}
}

func TestNone(t *testing.T) {
	none := noRange()
	if !impl.RangeOk(none) || impl.RangeText(none) != "none" || !impl.RangeLeq(none, none) {
		t.Fatal(none)
	}
	for _, x := range []int{0, 1, -1, math.MinInt, math.MaxInt} {
		if impl.RangeHas(none, x) {
			t.Fatalf("none has %d", x)
		}
	}
	wantRange(t, impl.RangeNeg(none), none, "neg")
	for _, r := range append(rangesOver(farEnds()), rangesOver(run(-3, 3))...) {
		wantNothing(t, none, r)
		wantNothing(t, r, none)
		if !impl.RangeLeq(none, r) || impl.RangeLeq(r, none) != (r == none) {
			t.Fatalf("none and %v", r)
		}
		wantRange(t, impl.RangeJoin(none, r), r, "join", r)
		wantRange(t, impl.RangeJoin(r, none), r, "join", r)
		for _, steps := range [][]int{nil, {}, {0}, {-bound, 5, bound}} {
			wantRange(t, impl.RangeWiden(none, r, steps), r, "widen", r, steps)
			wantRange(t, impl.RangeWiden(r, none, steps), r, "widen", r, steps)
		}
	}
}

func TestWrongRanges(t *testing.T) {
	others := append(rangesOver([]int{-bound, -1, 0, 1, bound}), wrongRanges()...)
	for _, wrong := range wrongRanges() {
		if text := impl.RangeText(wrong); text != "" {
			t.Fatalf("%v is written as %q", wrong, text)
		}
		wantRange(t, impl.RangeNeg(wrong), noRange(), "neg", wrong)
		if impl.RangeLeq(wrong, wrong) {
			t.Fatalf("%v is in itself", wrong)
		}
		for _, other := range others {
			for _, pair := range [][2]impl.Range{{wrong, other}, {other, wrong}} {
				a, b := pair[0], pair[1]
				wantNothing(t, a, b)
				if impl.RangeLeq(a, b) {
					t.Fatalf("%v is in %v", a, b)
				}
				wantRange(t, impl.RangeJoin(a, b), noRange(), "join", a, b)
				wantRange(t, impl.RangeWiden(a, b, nil), noRange(), "widen", a, b)
				wantRange(t, impl.RangeWiden(a, b, []int{-5, 0, 5}), noRange(), "widen", a, b)
			}
		}
	}
}

// mostSteps: so many steps, from first on, two apart.
func mostSteps(first, count int) []int {
	var steps []int
	for i := range count {
		steps = append(steps, first+2*i)
	}
	return steps
}

func someSteps() [][]int {
	return [][]int{
		nil, {}, {0}, {-2}, {3}, {-3, 3}, {-1, 0, 1}, {-4, -2, 1, 4}, {5}, {-5}, {-bound}, {bound}, {-bound, bound}, {-bound, 0, bound},
		mostSteps(-20, 20), mostSteps(-bound, 20), mostSteps(bound-38, 20), mostSteps(-19, 19),
	}
}

// widened: as the document says it, with the steps that do sorted out first.
func widened(a, b impl.Range, steps []int) impl.Range {
	if a == noRange() {
		return b
	}
	if b == noRange() {
		return a
	}
	if b.Lo < a.Lo {
		below := slices.DeleteFunc(slices.Clone(steps), func(step int) bool { return step > b.Lo })
		a.Lo = slices.Max(append(below, -bound))
	}
	if b.Hi > a.Hi {
		above := slices.DeleteFunc(slices.Clone(steps), func(step int) bool { return step < b.Hi })
		a.Hi = slices.Min(append(above, bound))
	}
	return a
}

// Promise 7: what is widened has both.
func TestWidenedRangesHaveBoth(t *testing.T) {
	for _, steps := range someSteps() {
		for _, nums := range append(rows(), farEnds()) {
			for _, a := range rangesOver(nums) {
				for _, b := range rangesOver(nums) {
					got := impl.RangeWiden(a, b, steps)
					if !impl.RangeLeq(a, got) || !impl.RangeLeq(b, got) {
						t.Fatalf("%v, %v, %v: %v has not both", a, b, steps, got)
					}
					wantRange(t, got, widened(a, b, steps), a, b, steps)
				}
			}
		}
	}
}

func TestWidenedEnds(t *testing.T) {
	steps := []int{-5, 0, 5, 10}
	for i, one := range []struct {
		a, b  impl.Range
		steps []int
		want  impl.Range
	}{
		{span(0, 1), span(0, 1), steps, span(0, 1)},
		{span(-1, 2), span(0, 1), steps, span(-1, 2)},
		{span(0, 1), span(0, 2), steps, span(0, 5)},
		{span(0, 1), span(0, 4), steps, span(0, 5)},
		{span(0, 1), span(0, 5), steps, span(0, 5)},
		{span(0, 1), span(0, 6), steps, span(0, 10)},
		{span(0, 1), span(0, 10), steps, span(0, 10)},
		{span(0, 1), span(0, 11), steps, span(0, bound)},
		{span(0, 12), span(0, 13), steps, span(0, bound)},
		{span(0, 1), span(-1, 1), steps, span(-5, 1)},
		{span(0, 1), span(-5, 1), steps, span(-5, 1)},
		{span(0, 1), span(-6, 1), steps, span(-bound, 1)},
		{span(8, 9), span(7, 9), steps, span(5, 9)},
		{span(8, 9), span(4, 9), steps, span(0, 9)},
		{span(8, 9), span(-1, 11), steps, span(-5, bound)},
		{span(0, 1), span(3, 4), steps, span(0, 5)},
		{span(0, 1), span(-4, -3), steps, span(-5, 1)},
		{span(0, 1), span(0, 2), nil, span(0, bound)},
		{span(0, 1), span(-1, 1), nil, span(-bound, 1)},
		{span(0, 1), span(-1, 2), []int{}, span(-bound, bound)},
		{span(0, 1), span(-1, 2), []int{0}, span(-bound, bound)},
		{span(0, 1), span(0, bound), steps, span(0, bound)},
		{span(0, 1), span(-bound, 1), steps, span(-bound, 1)},
		{span(0, 1), span(-1, 2), []int{-bound, bound}, span(-bound, bound)},
		{span(0, 1), span(0, bound-1), []int{bound - 1}, span(0, bound-1)},
	} {
		wantRange(t, impl.RangeWiden(one.a, one.b, one.steps), one.want, i)
	}
}

func TestStepsAtTheLimits(t *testing.T) {
	a, b := span(0, 1), span(-1, 2)
	for _, count := range []int{0, 1, 19, 20} {
		steps := mostSteps(-count, count)
		wantRange(t, impl.RangeWiden(a, b, steps), widened(a, b, steps), steps)
	}
	wrong := [][]int{
		mostSteps(-20, 21), mostSteps(0, 500), {5, 5}, {0, 0, 1}, {0, 1, 1}, {1, 0}, {0, 2, 1}, {3, 2, 1}, {5, 6, 5},
		{bound + 1}, {0, bound + 1}, {-bound - 1}, {-bound - 1, 0}, {math.MinInt}, {math.MaxInt}, {math.MinInt, math.MaxInt},
		{0, math.MaxInt}, {math.MaxInt, math.MinInt}, {-bound, -bound}, {bound, bound}, {bound, -bound},
	}
	for _, steps := range wrong {
		for _, one := range rangesOver(run(-2, 2)) {
			for _, other := range rangesOver(run(-2, 2)) {
				wantRange(t, impl.RangeWiden(one, other, steps), noRange(), one, other, steps)
			}
		}
	}
}

// grown: a range that goes past the low end (side 0), the high one (1) or both.
func grown(r impl.Range, by, side int) impl.Range {
	if r == noRange() {
		return span(by-2, by-2)
	}
	if side != 1 {
		r.Lo = max(r.Lo-by, -bound)
	}
	if side != 0 {
		r.Hi = min(r.Hi+by, bound)
	}
	return r
}

// Promise 7: a range that is widened again and again with the same steps
// changes at most 2 * steps + 3 times, and then has all that can come.
func TestWideningEnds(t *testing.T) {
	next := draws(6)
	for _, steps := range someSteps() {
		for _, nums := range rows() {
			for _, start := range rangesOver(nums) {
				for turn := range 6 {
					r, changes := start, 0
					for round := range 400 {
						side, by := round%2, 1
						if turn > 2 {
							side, by = next(3), 1+next(3)
						} else if turn > 0 {
							side = (round/100 + turn) % 2
						}
						wide := impl.RangeWiden(r, grown(r, by, side), steps)
						if wide != r {
							changes++
						}
						r = wide
					}
					if changes > 2*len(steps)+3 {
						t.Fatalf("%v by %v: %d changes", start, steps, changes)
					}
					wantRange(t, r, span(-bound, bound), start, steps)
				}
			}
		}
	}
}

// Whatever comes, also ranges that do not grow out of the one that is widened.
func TestWideningByAnything(t *testing.T) {
	next := draws(66)
	for _, steps := range someSteps() {
		for range 200 {
			r, changes := noRange(), 0
			for range 100 {
				lo := next(61) - 30
				other := span(lo, lo+next(9))
				if next(20) == 0 {
					other = noRange()
				}
				wide := impl.RangeWiden(r, other, steps)
				if !impl.RangeLeq(r, wide) || !impl.RangeLeq(other, wide) {
					t.Fatalf("%v and %v by %v: %v", r, other, steps, wide)
				}
				if wide != r {
					changes++
				}
				r = wide
			}
			if changes > 2*len(steps)+3 {
				t.Fatalf("%v: %d changes", steps, changes)
			}
		}
	}
}

func TestRangesAreReadBack(t *testing.T) {
	for _, nums := range append(rows(), farEnds(), run(-12, 12)) {
		seen := map[string]int{}
		for _, r := range rangesOver(nums) {
			text := impl.RangeText(r)
			want := "none"
			if r != noRange() {
				want = strconv.Itoa(r.Lo) + ".." + strconv.Itoa(r.Hi)
			}
			if seen[text]++; text != want || seen[text] > 1 {
				t.Fatalf("%v is written as %q, want %q", r, text, want)
			}
			if got, ok := impl.RangeRead(text); !ok || got != r {
				t.Fatalf("%q is read as %v %v, want %v", text, got, ok, r)
			}
		}
	}
}

func TestRangeTexts(t *testing.T) {
	for text, r := range map[string]impl.Range{
		"none":              {Lo: 1, Hi: 0},
		"-3..10":            {Lo: -3, Hi: 10},
		"0..0":              {},
		"7..7":              {Lo: 7, Hi: 7},
		"-7..-7":            {Lo: -7, Hi: -7},
		"-10..-9":           {Lo: -10, Hi: -9},
		"0..1":              {Lo: 0, Hi: 1},
		"-1000000..1000000": {Lo: -bound, Hi: bound},
		"1000000..1000000":  {Lo: bound, Hi: bound},
	} {
		if got := impl.RangeText(r); got != text {
			t.Fatalf("%v is written as %q, want %q", r, got, text)
		}
		if got, ok := impl.RangeRead(text); !ok || got != r {
			t.Fatalf("%q is read as %v %v", text, got, ok)
		}
	}
}

func wantNotRead(t *testing.T, text string) {
	t.Helper()
	if got, ok := impl.RangeRead(text); ok || got != (impl.Range{}) {
		t.Fatalf("%q is read as %v %v", text, got, ok)
	}
}

func TestTextsOfNoRange(t *testing.T) {
	for _, text := range []string{
		"", " ", ".", "..", "...", "....", "-", "-..-", "1", "1..", "..1", "1.2", "1...2", "1....2", "1..2..3", "1..2..", "..1..2", "1 ..2", "1.. 2", "1. .2",
		" 1..2", "1..2 ", "1..2\n", "\n1..2", "1..2\x00", "1..2x", "x1..2", "1..2.", ".1..2", "1..2 3", "a..b",
		"01..2", "1..02", "00..0", "0..00", "-01..2", "-0..1", "0..-0", "-0..-0", "-1..-0", "--1..2", "-2..--1", "+1..2", "1..+2", "+0..0", "-+1..2",
		"3..1", "1..0", "2..1", "0..-1", "-1..-2", "1000000..-1000000",
		"0..1000001", "-1000001..0", "1000001..1000001", "-1000001..-1000001", "1000001..2000000", "0..10000000",
		"-9223372036854775808..9223372036854775807", "0..9223372036854775807", "0..9223372036854775808", "-9223372036854775809..0",
		"0..18446744073709551616", "0..18446744073709551617", "18446744073709551616..18446744073709551617", "-18446744073709551616..0",
		"0.." + strings.Repeat("9", 4000), "0.." + strings.Repeat("0", 4000) + "1", strings.Repeat("1..", 4000) + "2", strings.Repeat(".", 4000),
		"1_0..20", "0x1..2", "0b1..2", "1e1..20", "1.0..2.0", "1,2", "1..2,", "[1..2]", "1:2", "1–2", "１..２", "\xff..\xff", "1..\xff",
		"None", "NONE", "non", "nonee", " none", "none ", "none\n", "none..none", "none..1", "1..none", "nil", "any",
	} {
		wantNotRead(t, text)
	}
}

// numbersOf: for each number that is written in so many of these digits, or
// fewer, its text.
func numbersOf(digits string, most int) map[string]int {
	nums := map[string]int{"0": 0}
	texts := []string{""}
	for range most {
		var longer []string
		for _, text := range texts {
			for _, digit := range digits {
				if text != "" || digit != '0' {
					longer = append(longer, text+string(digit))
				}
			}
		}
		for _, text := range longer {
			nums[text], _ = strconv.Atoi(text)
			nums["-"+text] = -nums[text]
		}
		texts = longer
	}
	return nums
}

// All texts of up to eight of these bytes: only those of ranges are read (a
// number has at most five, with the two points and another one beside it).
func TestShortTextsAreReadOrNot(t *testing.T) {
	const bytes, most = "-012.", 8
	want := map[string]impl.Range{}
	nums := numbersOf("012", most-3)
	for low, lo := range nums {
		for high, hi := range nums {
			if text := low + ".." + high; lo <= hi && len(text) <= most {
				want[text] = span(lo, hi)
			}
		}
	}
	read := 0
	var grow func(text string)
	grow = func(text string) {
		got, ok := impl.RangeRead(text)
		r, isOne := want[text]
		if ok != isOne || got != r {
			t.Fatalf("%q is read as %v %v", text, got, ok)
		}
		if ok {
			read++
		}
		if len(text) < most {
			for i := range len(bytes) {
				grow(text + bytes[i:i+1])
			}
		}
	}
	grow("")
	if read != len(want) || read < 1000 {
		t.Fatalf("%d of %d are read", read, len(want))
	}
}

// The texts of ranges with one byte more, fewer or another.
func TestSpoiltTextsOfRanges(t *testing.T) {
	for _, r := range append(rangesOver([]int{-bound, -10, -1, 0, 1, 10, bound}), span(-999999, 999999)) {
		text := impl.RangeText(r)
		for at := range len(text) + 1 {
			var spoilt []string
			for _, other := range []string{"", "0", "1", "9", "-", "+", ".", " ", "n"} {
				spoilt = append(spoilt, text[:at]+other+text[at:])
				if at < len(text) {
					spoilt = append(spoilt, text[:at]+other+text[at+1:])
				}
			}
			for _, one := range spoilt {
				got, ok := impl.RangeRead(one)
				if ok && impl.RangeText(got) != one || !ok && got != (impl.Range{}) {
					t.Fatalf("%q is read as %v %v", one, got, ok)
				}
			}
		}
	}
}

// Nothing is written into the steps, nothing behind them is read, and the same
// is told each time.
func TestStepsAreKept(t *testing.T) {
	room := []int{-5, 0, 5, 3, math.MaxInt, -7}
	before := slices.Clone(room)
	for range 3 {
		for count, want := range []impl.Range{span(-bound, bound), span(-5, bound), span(-5, bound), span(-5, 5)} {
			wantRange(t, impl.RangeWiden(span(0, 1), span(-1, 2), room[:count]), want, count)
		}
		wantRange(t, impl.RangeWiden(span(0, 1), span(-1, 2), room[:4]), noRange())
	}
	if !slices.Equal(room, before) {
		t.Fatalf("%v has become %v", before, room)
	}
}
