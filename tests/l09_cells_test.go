package tests

import (
	"math"
	"slices"
	"strings"
	"testing"

	"loop.example/g00093/impl"
)

func sure(r impl.Range) impl.Val { return impl.Val{R: r, Sure: true} }

func unsure(r impl.Range) impl.Val { return impl.Val{R: r} }

func noCell() impl.Val { return sure(noRange()) }

// bothWays: each range with Sure and without.
func bothWays(list []impl.Range) []impl.Val {
	var vals []impl.Val
	for _, r := range list {
		vals = append(vals, sure(r), unsure(r))
	}
	return vals
}

func valsOver(nums []int) []impl.Val { return bothWays(rangesOver(nums)) }

func wrongVals() []impl.Val { return bothWays(wrongRanges()) }

func written(num int) impl.Cell { return impl.Cell{Written: true, Num: num} }

func unwritten(num int) impl.Cell { return impl.Cell{Num: num} }

// cellsOver: the cells that have one of the numbers, and the one that has none.
func cellsOver(nums []int) []impl.Cell {
	list := []impl.Cell{unwritten(0)}
	for _, num := range nums {
		list = append(list, written(num))
	}
	return list
}

// oddCells: cells of numbers that no range has, and such as no run has.
func oddCells() []impl.Cell {
	var list []impl.Cell
	for _, num := range []int{math.MinInt, -bound - 1, bound + 1, math.MaxInt} {
		list = append(list, written(num), unwritten(num))
	}
	return append(list, unwritten(1), unwritten(-1), unwritten(5), unwritten(-bound), unwritten(bound))
}

// isSaid: whether a Val that is ok is so of a cell, number by number.
func isSaid(v impl.Val, c impl.Cell) bool {
	if !c.Written {
		return c == impl.Cell{} && !v.Sure
	}
	return v.R != noRange() && v.R.Lo <= c.Num && c.Num <= v.R.Hi
}

// saidOf: the cells of the list that a Val has.
func saidOf(v impl.Val, list []impl.Cell) []impl.Cell {
	var has []impl.Cell
	for _, c := range list {
		if impl.ValHas(v, c) {
			has = append(has, c)
		}
	}
	return has
}

func hasAll(v impl.Val, list []impl.Cell) bool { return len(saidOf(v, list)) == len(list) }

func wantSaid(t *testing.T, got, want impl.Val, about ...any) {
	t.Helper()
	if got != want {
		t.Fatalf("%v: %v, want %v", about, got, want)
	}
	if !impl.ValOk(got) {
		t.Fatalf("%v: %v is not ok", about, got)
	}
}

// groups: numbers side by side, and some far apart, over which Vals are made.
func groups() [][]int { return append(rows(), []int{-bound, -1000, -1, 0, 1, 999, bound}) }

func TestValOk(t *testing.T) {
	for _, v := range append(valsOver(farEnds()), valsOver(run(-4, 4))...) {
		if !impl.ValOk(v) {
			t.Fatalf("%v is not ok", v)
		}
	}
	for _, v := range wrongVals() {
		if impl.ValOk(v) {
			t.Fatalf("%v is ok", v)
		}
	}
	for _, v := range []impl.Val{noCell(), unsure(noRange()), {}, sure(span(-bound, bound)), unsure(span(-bound, bound)), unsure(span(bound, bound))} {
		if !impl.ValOk(v) {
			t.Fatalf("%v is not ok", v)
		}
	}
	for _, r := range []impl.Range{span(2, 0), span(0, bound+1), span(-bound-1, 0), span(1, -1)} {
		if impl.ValOk(sure(r)) || impl.ValOk(unsure(r)) {
			t.Fatalf("%v is ok", r)
		}
	}
}

func TestValHas(t *testing.T) {
	for _, nums := range append(rows(), farEnds()) {
		for _, v := range valsOver(nums) {
			ends := []int{v.R.Lo - 1, v.R.Lo, v.R.Lo + 1, v.R.Hi - 1, v.R.Hi, v.R.Hi + 1}
			for _, c := range append(cellsOver(append(ends, nums...)), oddCells()...) {
				if got := impl.ValHas(v, c); got != isSaid(v, c) {
					t.Fatalf("%v has %v: %v", v, c, got)
				}
			}
		}
	}
}

func TestCellsAtTheEnds(t *testing.T) {
	for i, one := range []struct {
		v    impl.Val
		c    impl.Cell
		want bool
	}{
		{sure(span(2, 5)), written(2), true},
		{sure(span(2, 5)), written(5), true},
		{sure(span(2, 5)), written(3), true},
		{sure(span(2, 5)), written(1), false},
		{sure(span(2, 5)), written(6), false},
		{sure(span(2, 5)), unwritten(0), false},
		{unsure(span(2, 5)), written(2), true},
		{unsure(span(2, 5)), written(5), true},
		{unsure(span(2, 5)), written(1), false},
		{unsure(span(2, 5)), written(6), false},
		{unsure(span(2, 5)), written(0), false},
		{unsure(span(2, 5)), unwritten(0), true},
		// A cell without a number is written as 0, whatever the range has.
		{unsure(span(2, 5)), unwritten(2), false},
		{unsure(span(2, 5)), unwritten(1), false},
		{unsure(span(2, 5)), unwritten(-1), false},
		{sure(span(0, 0)), written(0), true},
		{sure(span(0, 0)), unwritten(0), false},
		{sure(span(-1, 1)), unwritten(0), false},
		{unsure(span(-1, 1)), unwritten(0), true},
		{unsure(span(-1, 1)), unwritten(1), false},
		{noCell(), unwritten(0), false},
		{noCell(), written(0), false},
		{noCell(), written(1), false},
		{unsure(noRange()), unwritten(0), true},
		{unsure(noRange()), unwritten(1), false},
		{unsure(noRange()), written(0), false},
		{unsure(noRange()), written(1), false},
		{sure(span(-bound, bound)), written(bound), true},
		{sure(span(-bound, bound)), written(-bound), true},
		{sure(span(-bound, bound)), written(bound + 1), false},
		{sure(span(-bound, bound)), written(-bound - 1), false},
		{unsure(span(-bound, bound)), written(math.MaxInt), false},
		{unsure(span(-bound, bound)), written(math.MinInt), false},
		{unsure(span(-bound, bound)), unwritten(math.MinInt), false},
		{impl.Val{}, impl.Cell{}, true},
		{impl.Val{}, written(0), true},
		{impl.Val{}, written(1), false},
	} {
		if got := impl.ValHas(one.v, one.c); got != one.want {
			t.Fatalf("%d: %v has %v: %v", i, one.v, one.c, got)
		}
	}
}

// Promise 26: one is in another just where the cells of which it is so are
// among those of the other (numbers side by side, or at the ends, tell ranges
// over them apart).
func TestOrderOfVals(t *testing.T) {
	for _, nums := range groups() {
		list := append(cellsOver(nums), oddCells()...)
		for _, a := range valsOver(nums) {
			for _, b := range valsOver(nums) {
				want := hasAll(b, saidOf(a, list))
				if got := impl.ValLeq(a, b); got != want {
					t.Fatalf("%v in %v: %v", a, b, got)
				}
			}
		}
	}
}

func TestOrderByThrees(t *testing.T) {
	for _, nums := range [][]int{{-1, 0, 1, 2}, {-bound, 0, bound}} {
		all := valsOver(nums)
		for _, a := range all {
			if !impl.ValLeq(a, a) {
				t.Fatalf("%v is not in itself", a)
			}
			for _, b := range all {
				if impl.ValLeq(a, b) && impl.ValLeq(b, a) != (a == b) {
					t.Fatalf("%v and %v are in each other", a, b)
				}
				for _, c := range all {
					if impl.ValLeq(a, b) && impl.ValLeq(b, c) && !impl.ValLeq(a, c) {
						t.Fatalf("%v in %v in %v", a, b, c)
					}
				}
			}
		}
	}
}

func TestSureInOrder(t *testing.T) {
	lesser, greater, beside := span(1, 4), span(0, 5), span(5, 9)
	for i, one := range []struct {
		a, b impl.Val
		want bool
	}{
		{sure(lesser), sure(greater), true},
		{sure(lesser), unsure(greater), true},
		{unsure(lesser), unsure(greater), true},
		{unsure(lesser), sure(greater), false},
		{sure(greater), sure(greater), true},
		{sure(greater), unsure(greater), true},
		{unsure(greater), unsure(greater), true},
		{unsure(greater), sure(greater), false},
		{sure(greater), sure(lesser), false},
		{sure(greater), unsure(lesser), false},
		{unsure(greater), unsure(lesser), false},
		{unsure(greater), sure(lesser), false},
		{sure(lesser), sure(beside), false},
		{sure(lesser), unsure(beside), false},
		{unsure(lesser), unsure(beside), false},
		{unsure(lesser), sure(beside), false},
		{noCell(), noCell(), true},
		{noCell(), unsure(noRange()), true},
		{unsure(noRange()), noCell(), false},
		{unsure(noRange()), unsure(noRange()), true},
		{unsure(noRange()), unsure(lesser), true},
		{unsure(noRange()), sure(lesser), false},
		{sure(lesser), unsure(noRange()), false},
		{unsure(lesser), unsure(noRange()), false},
		{sure(lesser), noCell(), false},
		{unsure(lesser), noCell(), false},
		{noCell(), sure(lesser), true},
		{noCell(), unsure(lesser), true},
	} {
		if got := impl.ValLeq(one.a, one.b); got != one.want {
			t.Fatalf("%d: %v in %v: %v", i, one.a, one.b, got)
		}
	}
}

// Promise 26: what is joined has each cell that one of the two has, and there
// is nothing less that has.
func TestJoinedValsHaveBoth(t *testing.T) {
	for _, nums := range groups() {
		list := append(cellsOver(nums), oddCells()...)
		for _, a := range valsOver(nums) {
			for _, b := range valsOver(nums) {
				join := impl.ValJoin(a, b)
				if !impl.ValLeq(a, join) || !impl.ValLeq(b, join) {
					t.Fatalf("%v and %v: %v", a, b, join)
				}
				if !hasAll(join, saidOf(a, list)) || !hasAll(join, saidOf(b, list)) {
					t.Fatalf("%v and %v: %v has not all of both", a, b, join)
				}
				numbers := slices.Concat(in(nums, a.R), in(nums, b.R))
				wantSaid(t, join, impl.Val{R: around(numbers), Sure: a.Sure && b.Sure}, "join", a, b)
				wantSaid(t, impl.ValJoin(b, a), join, "the other way round", a, b)
			}
		}
	}
}

func TestJoinedValsAreLeast(t *testing.T) {
	for _, nums := range [][]int{{-2, -1, 0, 1, 2}, {-bound, -1, 0, bound}} {
		all := valsOver(nums)
		for _, a := range all {
			for _, b := range all {
				join := impl.ValJoin(a, b)
				for _, c := range all {
					if impl.ValLeq(a, c) && impl.ValLeq(b, c) && !impl.ValLeq(join, c) {
						t.Fatalf("%v and %v: join %v, but %v has both", a, b, join, c)
					}
				}
			}
		}
	}
}

func TestSureJoined(t *testing.T) {
	a, b, both := span(0, 2), span(5, 6), span(0, 6)
	for i, one := range []struct{ got, want impl.Val }{
		{impl.ValJoin(sure(a), sure(b)), sure(both)},
		{impl.ValJoin(sure(a), unsure(b)), unsure(both)},
		{impl.ValJoin(unsure(a), sure(b)), unsure(both)},
		{impl.ValJoin(unsure(a), unsure(b)), unsure(both)},
		{impl.ValJoin(sure(a), sure(a)), sure(a)},
		{impl.ValJoin(sure(a), unsure(a)), unsure(a)},
		{impl.ValJoin(unsure(noRange()), sure(a)), unsure(a)},
		{impl.ValJoin(sure(a), unsure(noRange())), unsure(a)},
		{impl.ValJoin(unsure(noRange()), unsure(noRange())), unsure(noRange())},
		{impl.ValJoin(unsure(noRange()), noCell()), unsure(noRange())},
		{impl.ValJoin(noCell(), noCell()), noCell()},
		{impl.ValJoin(sure(span(-bound, 0)), sure(span(bound, bound))), sure(span(-bound, bound))},
	} {
		wantSaid(t, one.got, one.want, i)
	}
}

// Promise 26: what is widened has each cell that one of the two has.
func TestWidenedValsHaveBoth(t *testing.T) {
	for _, steps := range someSteps() {
		for _, nums := range groups() {
			list := append(cellsOver(nums), oddCells()...)
			for _, a := range valsOver(nums) {
				ofA := saidOf(a, list)
				for _, b := range valsOver(nums) {
					wide := impl.ValWiden(a, b, steps)
					wantSaid(t, wide, impl.Val{R: widened(a.R, b.R, steps), Sure: a.Sure && b.Sure}, "widen", a, b, steps)
					if !impl.ValLeq(impl.ValJoin(a, b), wide) || !hasAll(wide, ofA) || !hasAll(wide, saidOf(b, list)) {
						t.Fatalf("%v and %v by %v: %v has not all of both", a, b, steps, wide)
					}
				}
			}
		}
	}
}

func TestSureWidened(t *testing.T) {
	steps := []int{-5, 0, 5, 10}
	a, b, wide := span(1, 2), span(1, 6), span(1, 10)
	for i, one := range []struct{ got, want impl.Val }{
		{impl.ValWiden(sure(a), sure(b), steps), sure(wide)},
		{impl.ValWiden(sure(a), unsure(b), steps), unsure(wide)},
		{impl.ValWiden(unsure(a), sure(b), steps), unsure(wide)},
		{impl.ValWiden(unsure(a), unsure(b), steps), unsure(wide)},
		{impl.ValWiden(sure(b), sure(a), steps), sure(b)},
		{impl.ValWiden(sure(b), unsure(a), steps), unsure(b)},
		{impl.ValWiden(unsure(b), sure(a), steps), unsure(b)},
		{impl.ValWiden(sure(a), sure(span(0, 2)), steps), sure(span(0, 2))},
		{impl.ValWiden(sure(a), sure(span(-1, 2)), steps), sure(span(-5, 2))},
		{impl.ValWiden(sure(a), sure(span(-6, 11)), steps), sure(span(-bound, bound))},
		{impl.ValWiden(sure(a), unsure(span(-1, 3)), nil), unsure(span(-bound, bound))},
		{impl.ValWiden(sure(a), sure(b), []int{}), sure(span(1, bound))},
		{impl.ValWiden(unsure(noRange()), sure(b), steps), unsure(b)},
		{impl.ValWiden(sure(b), unsure(noRange()), steps), unsure(b)},
		{impl.ValWiden(unsure(noRange()), noCell(), steps), unsure(noRange())},
		{impl.ValWiden(noCell(), unsure(noRange()), steps), unsure(noRange())},
	} {
		wantSaid(t, one.got, one.want, i)
	}
}

func TestNoCell(t *testing.T) {
	none := noCell()
	for _, c := range append(cellsOver(farEnds()), oddCells()...) {
		if impl.ValHas(none, c) {
			t.Fatalf("no cell has %v", c)
		}
	}
	for _, v := range append(valsOver(farEnds()), valsOver(run(-3, 3))...) {
		if !impl.ValLeq(none, v) || impl.ValLeq(v, none) != (v == none) {
			t.Fatalf("no cell and %v", v)
		}
		wantSaid(t, impl.ValJoin(none, v), v, "join", v)
		wantSaid(t, impl.ValJoin(v, none), v, "join", v)
		for _, steps := range someSteps() {
			wantSaid(t, impl.ValWiden(none, v, steps), v, "widen", v, steps)
			wantSaid(t, impl.ValWiden(v, none, steps), v, "widen", v, steps)
		}
	}
}

func TestWrongVals(t *testing.T) {
	others := append(valsOver([]int{-bound, -1, 0, 1, bound}), wrongVals()...)
	for _, wrong := range wrongVals() {
		if text := impl.ValText(wrong); text != "" {
			t.Fatalf("%v is written as %q", wrong, text)
		}
		list := append(cellsOver(append(farEnds(), wrong.R.Lo, wrong.R.Hi)), oddCells()...)
		if has := saidOf(wrong, list); len(has) > 0 {
			t.Fatalf("%v has %v", wrong, has)
		}
		for _, other := range others {
			for _, two := range [][2]impl.Val{{wrong, other}, {other, wrong}} {
				a, b := two[0], two[1]
				if impl.ValLeq(a, b) {
					t.Fatalf("%v is in %v", a, b)
				}
				wantSaid(t, impl.ValJoin(a, b), noCell(), "join", a, b)
				wantSaid(t, impl.ValWiden(a, b, nil), noCell(), "widen", a, b)
				wantSaid(t, impl.ValWiden(a, b, []int{-5, 0, 5}), noCell(), "widen", a, b)
				wantSaid(t, impl.ValWiden(a, b, []int{5, 5}), noCell(), "widen", a, b)
			}
		}
	}
}

func TestStepsOfVals(t *testing.T) {
	a, b := unsure(span(0, 1)), unsure(span(-1, 2))
	for _, count := range []int{0, 1, 2, 19, 20} {
		steps := mostSteps(-count, count)
		wantSaid(t, impl.ValWiden(a, b, steps), unsure(widened(a.R, b.R, steps)), steps)
	}
	wantSaid(t, impl.ValWiden(a, b, []int{-bound, bound}), unsure(span(-bound, bound)))
	wrong := [][]int{
		mostSteps(-20, 21), mostSteps(-bound, 22), mostSteps(0, 500), {5, 5}, {0, 0, 1}, {0, 1, 1}, {1, 0}, {0, 2, 1}, {3, 2, 1}, {bound, -bound},
		{bound + 1}, {0, bound + 1}, {-bound - 1}, {-bound - 1, 0}, {math.MinInt}, {math.MaxInt}, {math.MinInt, math.MaxInt}, {math.MaxInt, math.MinInt},
	}
	for _, steps := range wrong {
		for _, one := range valsOver(run(-2, 2)) {
			for _, other := range valsOver(run(-2, 2)) {
				wantSaid(t, impl.ValWiden(one, other, steps), noCell(), one, other, steps)
			}
		}
	}
}

// Promise 26: each is read back from its text, and no two have one text.
func TestValsAreReadBack(t *testing.T) {
	for _, nums := range append(groups(), farEnds(), run(-12, 12)) {
		seen := map[string]impl.Val{}
		for _, v := range valsOver(nums) {
			text := impl.ValText(v)
			want := impl.RangeText(v.R)
			if !v.Sure {
				want += " or unwritten"
			}
			if other, isOld := seen[text]; isOld || text != want {
				t.Fatalf("%v is written as %q, want %q (and so is %v)", v, text, want, other)
			}
			seen[text] = v
			if got, ok := impl.ValRead(text); !ok || got != v {
				t.Fatalf("%q is read as %v %v, want %v", text, got, ok, v)
			}
		}
	}
}

func TestValTexts(t *testing.T) {
	for text, v := range map[string]impl.Val{
		"none":                           noCell(),
		"none or unwritten":              unsure(noRange()),
		"0..0":                           sure(span(0, 0)),
		"0..0 or unwritten":              {},
		"-3..10":                         sure(span(-3, 10)),
		"-3..10 or unwritten":            unsure(span(-3, 10)),
		"-7..-7 or unwritten":            unsure(span(-7, -7)),
		"-1000000..1000000":              sure(span(-bound, bound)),
		"-1000000..1000000 or unwritten": unsure(span(-bound, bound)),
	} {
		if got := impl.ValText(v); got != text {
			t.Fatalf("%v is written as %q, want %q", v, got, text)
		}
		if got, ok := impl.ValRead(text); !ok || got != v {
			t.Fatalf("%q is read as %v %v", text, got, ok)
		}
	}
}

func wantNoValRead(t *testing.T, text string) {
	t.Helper()
	if got, ok := impl.ValRead(text); ok || got != (impl.Val{}) {
		t.Fatalf("%q is read as %v %v", text, got, ok)
	}
}

func TestTextsOfNoVal(t *testing.T) {
	for _, text := range []string{
		"", " ", "or", "unwritten", "or unwritten", " or unwritten", "  or unwritten", " or unwritten or unwritten", "sure", "any", "no cell", "nothing",
		"0..5 or", "0..5 or ", "0..5 ", "0..5 unwritten", "0..5or unwritten", "0..5 orunwritten", "0..5 or  unwritten", "0..5  or unwritten", " 0..5 or unwritten", "0..5 or unwritten ",
		"0..5 or unwritten\n", "\n0..5 or unwritten", "0..5\nor unwritten", "0..5 or\nunwritten", "0..5\tor unwritten", "0..5 or unwritten.", "0..5 or unwritten;", "0..5, or unwritten",
		"0..5 or unwritte", "0..5 or unwrittenn", "0..5 or Unwritten", "0..5 OR unwritten", "0..5 r unwritten", "0..5 or unwritten\x00", "0..5 or written", "0..5 and unwritten", "0..5 or not written",
		"0..5 or unwritten or unwritten", "0..5 or or unwritten", "0..5 or unwritten unwritten", "unwritten or 0..5", "or unwritten 0..5", "0..5 or 7..8", "0..5 or none", "0..5 0..5", "0..5 0..5 or unwritten",
		"00..5 or unwritten", "0..05 or unwritten", "0..+5 or unwritten", "+0..5 or unwritten", "-0..5 or unwritten", "--1..5 or unwritten", "0...5 or unwritten", "0.5 or unwritten", "0..5.. or unwritten",
		"00..5", "0..05", "+0..5", "-0..5", "0..+5", " 0..5", "0.. 5", "0 ..5", "0..", "..5", "0", "5", "0 or unwritten", "5..0", "5..0 or unwritten", "1..0", "1..0 or unwritten", "2..0", "2..0 or unwritten",
		"0..1000001", "0..1000001 or unwritten", "-1000001..0", "-1000001..0 or unwritten", "0..9223372036854775808 or unwritten", "0..18446744073709551616 or unwritten", "0..18446744073709551621",
		"None", "none ", " none", "none or", "none or ", "none unwritten", "none  or unwritten", "none or unwritten ", " none or unwritten", "none or unwritten or unwritten", "none or none", "nonee or unwritten", "non or unwritten",
		strings.Repeat(" or unwritten", 1000), "0..5" + strings.Repeat(" or unwritten", 1000), "0.." + strings.Repeat("9", 5000) + " or unwritten", "\xff or unwritten",
	} {
		wantNoValRead(t, text)
	}
}

// All rows of up to five of these pieces: only the texts of Vals are read.
func TestRowsOfPiecesAreReadOrNot(t *testing.T) {
	pieces := []string{"none", "0", "7", "-", "..", " ", "or", "unwritten", " or unwritten"}
	want := map[string]impl.Val{"none": noCell(), "none or unwritten": unsure(noRange())}
	nums := numbersOf("07", 3)
	for low, lo := range nums {
		for high, hi := range nums {
			if lo <= hi {
				want[low+".."+high] = sure(span(lo, hi))
				want[low+".."+high+" or unwritten"] = unsure(span(lo, hi))
			}
		}
	}
	seen := map[string]impl.Val{}
	var grow func(text string, left int)
	grow = func(text string, left int) {
		if got, ok := impl.ValRead(text); ok {
			seen[text] = got
		} else if got != (impl.Val{}) {
			t.Fatalf("%q is not read, but %v is told", text, got)
		}
		if left == 0 {
			return
		}
		for _, piece := range pieces {
			grow(text+piece, left-1)
		}
	}
	grow("", 5)
	for text, got := range seen {
		if v, isOne := want[text]; !isOne || v != got {
			t.Fatalf("%q is read as %v", text, got)
		}
	}
	for _, text := range []string{"none", "none or unwritten", "0..7", "0..7 or unwritten", "-7..7", "-7..7 or unwritten", "70..77", "7..77 or unwritten"} {
		if _, isRead := seen[text]; !isRead {
			t.Fatalf("%q is not read", text)
		}
	}
}

// The texts of Vals with one byte more, fewer or another.
func TestSpoiltTextsOfVals(t *testing.T) {
	for _, v := range valsOver([]int{-bound, -10, 0, 1, 10, bound}) {
		text := impl.ValText(v)
		for at := range len(text) + 1 {
			var spoilt []string
			for _, other := range []string{"", "0", "1", "-", "+", ".", " ", "n", "o", "r", "\n"} {
				spoilt = append(spoilt, text[:at]+other+text[at:])
				if at < len(text) {
					spoilt = append(spoilt, text[:at]+other+text[at+1:])
				}
			}
			for _, one := range spoilt {
				got, ok := impl.ValRead(one)
				if ok && impl.ValText(got) != one || !ok && got != (impl.Val{}) {
					t.Fatalf("%q is read as %v %v", one, got, ok)
				}
			}
		}
	}
}

// Nothing is written into the steps, nothing behind them is read, and the same
// is told each time.
func TestStepsOfValsAreKept(t *testing.T) {
	room := []int{-5, 0, 5, 3, math.MaxInt, -7}
	before := slices.Clone(room)
	for range 3 {
		for count, want := range []impl.Range{span(-bound, bound), span(-5, bound), span(-5, bound), span(-5, 5)} {
			wantSaid(t, impl.ValWiden(sure(span(0, 1)), unsure(span(-1, 2)), room[:count]), unsure(want), count)
		}
		wantSaid(t, impl.ValWiden(unsure(span(0, 1)), unsure(span(-1, 2)), room[:4]), noCell())
	}
	if !slices.Equal(room, before) {
		t.Fatalf("%v has become %v", before, room)
	}
}

// The cells of programs that run: what is said of all cells of an array is so
// of each of them.
func TestCellsOfRuns(t *testing.T) {
	next := draws(9)
	seen := [2]int{}
	for range 300 {
		n := runProgram(t, next)
		var lens []int
		for _, size := range impl.SizesOf(n) {
			if size < 0 {
				lens = append(lens, next(5))
			}
		}
		c := impl.RunTo(n, lens, []int{3, -1, 2, 0, 5}, 60)
		for _, row := range c.Cells {
			all := noCell()
			for _, cell := range row {
				one := unsure(noRange())
				if cell.Written {
					one = sure(span(cell.Num, cell.Num))
				}
				all = impl.ValJoin(all, one)
			}
			if !hasAll(all, row) || all.Sure != !slices.Contains(row, impl.Cell{}) {
				t.Fatalf("%v is said of %v", all, row)
			}
			if len(row) > 0 && all.Sure {
				seen[0]++
			} else if len(row) > 0 {
				seen[1]++
			}
		}
	}
	if seen[0] < 5 || seen[1] < 5 {
		t.Fatalf("%d rows are all written, %d are not", seen[0], seen[1])
	}
}
