package tests

import (
	"math"
	"slices"
	"strconv"
	"strings"
	"testing"

	"loop.example/g00093/impl"
)

const gap = 2 * bound

func factsOf(size int, most ...int) impl.Facts { return impl.Facts{Size: size, Most: most} }

// factsBy: the facts whose number of each pair is told.
func factsBy(size int, tell func(i, j int) int) impl.Facts {
	f := impl.Facts{Size: size}
	for i := range size {
		for j := range size {
			f.Most = append(f.Most, tell(i, j))
		}
	}
	return f
}

func capAt(i, j int) int {
	if i == j {
		return 0
	}
	if i*j == 0 {
		return bound
	}
	return gap
}

func capsOf(size int) impl.Facts { return factsBy(size, capAt) }

func mostAt(f impl.Facts, i, j int) int { return f.Most[i*f.Size+j] }

// putFact: the facts with another number for one pair.
func putFact(f impl.Facts, i, j, c int) impl.Facts {
	f = copyFacts(f)
	f.Most[i*f.Size+j] = c
	return f
}

func copyFacts(f impl.Facts) impl.Facts { return factsOf(f.Size, slices.Clone(f.Most)...) }

func sameFacts(a, b impl.Facts) bool { return a.Size == b.Size && slices.Equal(a.Most, b.Most) }

func isNoFacts(f impl.Facts) bool { return sameFacts(f, impl.Facts{}) }

func wantFacts(t *testing.T, got, want impl.Facts, about ...any) {
	t.Helper()
	if !sameFacts(got, want) {
		t.Fatalf("%v: %v, want %v", about, got, want)
	}
	if !isNoFacts(got) && !impl.FactsOk(got) {
		t.Fatalf("%v: %v is not ok", about, got)
	}
}

func wantNoFacts(t *testing.T, got impl.Facts, about ...any) {
	t.Helper()
	wantFacts(t, got, impl.Facts{}, about...)
}

// closedByRounds: of ok facts the least sums along ways of one pair, of two,
// and so on; one that meets no symbol twice has fewer pairs than there are
// symbols, one back to its beginning as many at the most.
func closedByRounds(f impl.Facts) impl.Facts {
	ways := copyFacts(f)
	for range f.Size {
		ways = factsBy(f.Size, func(i, j int) int {
			least := mostAt(ways, i, j)
			for k := range f.Size {
				least = min(least, mostAt(ways, i, k)+mostAt(f, k, j))
			}
			return least
		})
	}
	for i := range f.Size {
		if mostAt(ways, i, i) < 0 {
			return impl.Facts{}
		}
	}
	return ways
}

// smallFacts: facts of two symbols beside 0 with numbers about 0, all there are
// with these numbers.
func smallFacts(nums []int) []impl.Facts {
	var list []impl.Facts
	for _, a := range nums {
		for _, b := range nums {
			for _, c := range nums {
				for _, d := range nums {
					list = append(list, factsOf(3, 0, a, b, c, 0, d, 1, bound, 0), factsOf(3, 0, bound, a, b, 0, c, d, gap, 0))
				}
			}
		}
	}
	return list
}

// someFacts: ok facts of a size, sparse or dense, small or great.
func someFacts(next func(int) int, size int) impl.Facts {
	kind, sparse := next(4), 1+next(4)
	return factsBy(size, func(i, j int) int {
		top := capAt(i, j)
		if i == j || next(sparse) > 0 {
			return top
		}
		switch kind {
		case 0:
			return next(12) - 2
		case 1:
			return top - next(5)
		case 2:
			return max(-gap, min(top, (next(9)-2)*(bound/2)+next(3)-1))
		}
		return []int{-gap, -gap + 1, -bound, -1, 0, 1, 3, bound - 1, bound, top - 1, top}[next(11)]
	})
}

// someRow: numbers of symbols, the first one 0, near 0 or near the bounds.
func someRow(next func(int) int, size int) []int {
	row := make([]int, size)
	kind := next(4)
	for i := 1; i < size; i++ {
		row[i] = next(9) - 4
		switch {
		case kind == 1:
			row[i] = []int{-bound, -bound + 1, 0, bound - 1, bound}[next(5)]
		case kind == 2 && next(2) == 0:
			row[i] = bound - next(5)
		case kind == 3 && next(2) == 0:
			row[i] = -bound + next(5)
		}
	}
	return row
}

// factsAround: facts that are so of all rows, some numbers as small as can be.
func factsAround(next func(int) int, size int, list ...[]int) impl.Facts {
	sparse := 1 + next(3)
	return factsBy(size, func(i, j int) int {
		if i == j || next(sparse) > 0 {
			return capAt(i, j)
		}
		most := -gap
		for _, row := range list {
			most = max(most, row[i]-row[j])
		}
		return min(most+next(3), capAt(i, j))
	})
}

func wantHas(t *testing.T, f impl.Facts, row []int, about ...any) {
	t.Helper()
	if !impl.FactsHas(f, row) {
		t.Fatalf("%v: %v has not %v", about, f, row)
	}
}

func wrongFacts() []impl.Facts {
	return []impl.Facts{
		factsOf(0, 0), factsOf(0, 0, 0), factsOf(1), factsOf(2), factsOf(13), factsOf(-1), factsOf(-1, 0), factsOf(-2, 0, 1, 1, 0),
		factsOf(1, 1), factsOf(1, -1), factsOf(1, 0, 0), factsOf(1, math.MinInt), factsOf(1, math.MaxInt),
		factsOf(2, 0, 1, 1), factsOf(2, 0, 1, 1, 0, 0), factsOf(2, 0), factsOf(4, 0, 1, 1, 0), factsOf(3, 0, 1, 1, 0),
		factsOf(2, 1, 1, 1, 0), factsOf(2, 0, 1, 1, 1), factsOf(2, -1, 1, 1, 0), factsOf(2, 0, 1, 1, -1),
		factsOf(2, 0, bound+1, 1, 0), factsOf(2, 0, 1, bound+1, 0), factsOf(2, 0, -gap-1, 1, 0), factsOf(2, 0, 1, -gap-1, 0),
		factsOf(2, 0, math.MaxInt, 1, 0), factsOf(2, 0, math.MinInt, math.MinInt, 0), factsOf(2, 0, gap, gap, 0),
		factsOf(math.MaxInt), factsOf(math.MinInt), factsOf(math.MaxInt, 0), factsOf(math.MinInt, 0),
		factsOf(1 << 32), factsOf(1 << 62), factsOf(-1 << 32), factsOf(1<<32+1, 0),
		capsOf(14), factsOf(13, capsOf(14).Most...), factsOf(14, capsOf(13).Most...), factsOf(13, capsOf(12).Most...),
		putFact(capsOf(3), 1, 2, gap+1), putFact(capsOf(3), 2, 1, -gap-1), putFact(capsOf(3), 2, 0, bound+1), putFact(capsOf(3), 2, 2, 1),
		factsOf(3, capsOf(3).Most[:8]...), factsOf(3, append(capsOf(3).Most, 0)...),
	}
}

// someNones: facts that are ok, and close to none.
func someNones() []impl.Facts {
	return []impl.Facts{
		factsOf(2, 0, -1, 0, 0), factsOf(2, 0, 3, -4, 0), factsOf(2, 0, -gap, bound, 0), factsOf(2, 0, -gap, -gap, 0), factsOf(2, 0, -bound-1, bound, 0),
		putFact(putFact(capsOf(3), 1, 2, -1), 2, 1, 0), putFact(putFact(capsOf(3), 1, 2, -gap), 2, 1, gap-1),
		factsOf(3, 0, 1, bound, bound, 0, -3, 1, gap, 0),
		factsBy(13, func(i, j int) int {
			if j == (i+1)%13 {
				return []int{0, -1}[i/12]
			}
			return capAt(i, j)
		}),
	}
}

// mixedFacts: none, what closes to none, and ok facts of sizes 1, 2, 3 and 13.
func mixedFacts() []impl.Facts {
	list := append(someNones(), impl.Facts{}, factsOf(0, []int{}...), capsOf(1), capsOf(2), capsOf(3), capsOf(13),
		factsOf(2, 0, 5, 3, 0), factsOf(2, 0, -5, 6, 0), factsOf(2, 0, -5, 5, 0), factsOf(2, 0, bound-1, -bound, 0),
		factsOf(3, 0, 0, 5, 9, 0, 2, 7, 1, 0), putFact(capsOf(3), 1, 2, -1), putFact(putFact(capsOf(3), 1, 2, 2), 2, 0, 3), putFact(capsOf(3), 2, 1, -gap))
	next := draws(7)
	for _, size := range []int{2, 2, 3, 3, 3, 3, 13, 13} {
		list = append(list, someFacts(next, size), factsAround(next, size, someRow(next, size), someRow(next, size)))
	}
	return list
}

// pairsOfFacts: each with each, and what is answered by none: one is neither
// ok nor none, or both are ok and their sizes unlike.
func pairsOfFacts(visit func(a, b impl.Facts, fit bool)) {
	mixed, wrong := mixedFacts(), wrongFacts()
	for _, a := range mixed {
		for _, b := range mixed {
			visit(a, b, isNoFacts(a) || isNoFacts(b) || a.Size == b.Size)
		}
		for _, b := range wrong {
			visit(a, b, false)
			visit(b, a, false)
		}
	}
	for i, a := range wrong {
		visit(a, a, false)
		visit(a, wrong[(i+1)%len(wrong)], false)
	}
}

// closedOrNone: as the document says closed, none for none.
func closedOrNone(f impl.Facts) impl.Facts {
	if isNoFacts(f) {
		return impl.Facts{}
	}
	return closedByRounds(f)
}

func TestFactsConstants(t *testing.T) {
	if impl.MaxSyms != 13 {
		t.Fatal(impl.MaxSyms)
	}
}

func TestFactsTop(t *testing.T) {
	for size := 1; size <= 13; size++ {
		top := impl.FactsTop(size)
		wantFacts(t, top, capsOf(size), size)
		// Ways over the caps are no shorter.
		wantFacts(t, impl.FactsClose(top), top, size)
	}
	wantFacts(t, impl.FactsTop(1), factsOf(1, 0))
	wantFacts(t, impl.FactsTop(3), factsOf(3, 0, bound, bound, bound, 0, gap, bound, gap, 0))
	for _, size := range []int{0, -1, -13, 14, 15, 26, 1 << 32, math.MinInt, math.MaxInt} {
		wantNoFacts(t, impl.FactsTop(size), size)
	}
}

func wantOkFacts(t *testing.T, f impl.Facts, want bool) {
	t.Helper()
	if impl.FactsOk(f) != want {
		t.Fatalf("%v: want %v", f, want)
	}
}

// Each number of each pair: at its cap and at -2 * MaxVal it is taken, one past
// these it is not; of a symbol and itself only 0 is.
func TestCapsOfFacts(t *testing.T) {
	for _, size := range []int{1, 2, 3, 13} {
		for i := range size {
			for j := range size {
				for _, c := range []int{
					math.MinInt, -gap - 1, -gap, -gap + 1, -bound - 1, -bound, -bound + 1, -1, 0, 1,
					bound - 1, bound, bound + 1, gap - 1, gap, gap + 1, math.MaxInt,
				} {
					want := c >= -gap && c <= capAt(i, j)
					if i == j {
						want = c == 0
					}
					wantOkFacts(t, putFact(capsOf(size), i, j, c), want)
					wantOkFacts(t, putFact(factsBy(size, func(i, j int) int { return 0 }), i, j, c), want)
				}
			}
		}
	}
}

func TestFactsOk(t *testing.T) {
	for size := 1; size <= 13; size++ {
		wantOkFacts(t, capsOf(size), true)
		wantOkFacts(t, factsOf(size, append(capsOf(size).Most, 0)...), false)
		wantOkFacts(t, factsOf(size, capsOf(size).Most[1:]...), false)
		wantOkFacts(t, factsOf(size+1, capsOf(size).Most...), false)
		wantOkFacts(t, factsOf(size-1, capsOf(size).Most...), false)
		wantOkFacts(t, factsOf(-size, capsOf(size).Most...), false)
	}
	for _, f := range wrongFacts() {
		wantOkFacts(t, f, false)
	}
	for _, f := range mixedFacts() {
		wantOkFacts(t, f, !isNoFacts(f))
	}
	for _, f := range someNones() {
		wantOkFacts(t, f, true)
	}
}

func TestFactsHas(t *testing.T) {
	nums := []int{-bound, -bound + 1, -2, -1, 0, 1, 2, bound - 1, bound}
	next := draws(17)
	for range 300 {
		f := someFacts(next, 3)
		for _, x := range nums {
			for _, y := range nums {
				row := []int{0, x, y}
				want := true
				for i := range 3 {
					for j := range 3 {
						want = want && row[i]-row[j] <= mostAt(f, i, j)
					}
				}
				if impl.FactsHas(f, row) != want {
					t.Fatalf("%v and %v: want %v", f, row, want)
				}
			}
		}
	}
	f := factsOf(2, 0, -2, 5, 0)
	for x := -9; x <= 9; x++ {
		if got := impl.FactsHas(f, []int{0, x}); got != (x >= 2 && x <= 5) {
			t.Fatalf("%d: %v", x, got)
		}
	}
	wantHas(t, impl.FactsTop(1), []int{0})
	wantHas(t, impl.FactsTop(3), []int{0, bound, -bound})
	wantHas(t, impl.FactsTop(13), make([]int, 13))
}

func TestNumbersThatAreNotHad(t *testing.T) {
	const least, most = math.MinInt, math.MaxInt
	for _, row := range [][]int{
		nil, {}, {0}, {0, 0}, {0, 0, 0, 0}, {1, 0, 0}, {-1, 0, 0}, {1, 1, 1}, {most, 0, 0}, {least, 0, 0}, {least, least, least},
		{0, bound + 1, 0}, {0, 0, bound + 1}, {0, -bound - 1, 0}, {0, 0, -bound - 1}, {0, bound + 1, bound + 1},
		{0, most, 0}, {0, least, 0}, {0, most, most}, {0, least, least}, {0, most, least}, {0, least, most}, {0, 0, least},
	} {
		if impl.FactsHas(impl.FactsTop(3), row) {
			t.Fatalf("%v are had", row)
		}
	}
	if impl.FactsHas(impl.FactsTop(13), make([]int, 12)) || impl.FactsHas(impl.FactsTop(13), make([]int, 14)) {
		t.Fatal("12 or 14 numbers of 13 symbols are had")
	}
	for _, f := range append(wrongFacts(), impl.Facts{}, factsOf(0, []int{}...)) {
		for size := range 15 {
			if impl.FactsHas(f, make([]int, size)) {
				t.Fatalf("%v has %d noughts", f, size)
			}
		}
	}
	for _, f := range someNones() {
		for x := -7; x <= 7; x++ {
			for y := -7; y <= 7; y++ {
				if impl.FactsHas(f, []int{0, x, y}[:min(3, f.Size)]) {
					t.Fatalf("%v has %d and %d", f, x, y)
				}
			}
		}
	}
}

func wantClosed(t *testing.T, f impl.Facts) {
	t.Helper()
	got := impl.FactsClose(f)
	wantFacts(t, got, closedByRounds(f), f)
	wantFacts(t, impl.FactsClose(got), got, "closed again", f)
}

func TestFactsClose(t *testing.T) {
	for _, f := range smallFacts([]int{-5, -1, 0, 2, 7}) {
		wantClosed(t, f)
	}
	for _, f := range smallFacts([]int{-gap, -bound, 1 - bound, bound - 1, bound}) {
		wantClosed(t, f)
	}
	next := draws(27)
	for range 300 {
		for _, size := range []int{1, 2, 3, 4, 5, 6, 13} {
			wantClosed(t, someFacts(next, size))
			wantClosed(t, factsAround(next, size, someRow(next, size)))
		}
	}
}

func TestWaysOfPairs(t *testing.T) {
	top := capsOf(4)
	for i, one := range []struct{ from, want impl.Facts }{
		{putFact(putFact(capsOf(3), 1, 2, 2), 2, 0, 3), factsOf(3, 0, bound, bound, 5, 0, 2, 3, bound+3, 0)},
		// A way back with a sum of 0 is none that is wrong.
		{putFact(putFact(capsOf(3), 1, 2, 4), 2, 1, -4), factsOf(3, 0, bound-4, bound, bound, 0, 4, bound-4, -4, 0)},
		{factsOf(2, 0, -7, 7, 0), factsOf(2, 0, -7, 7, 0)},
		{factsOf(2, 0, -7, 6, 0), impl.Facts{}},
		{factsOf(2, 0, -bound, bound, 0), factsOf(2, 0, -bound, bound, 0)},
		{factsOf(2, 0, -bound-1, bound, 0), impl.Facts{}},
		{putFact(putFact(capsOf(3), 1, 2, -gap), 2, 1, gap), factsOf(3, 0, bound, -bound, -bound, 0, -gap, bound, gap, 0)},
		{putFact(putFact(capsOf(3), 1, 2, -gap), 2, 1, gap-1), impl.Facts{}},
		{putFact(putFact(putFact(top, 1, 2, -1), 2, 3, -1), 3, 1, 2),
			factsOf(4, 0, bound, bound-1, bound-2, bound-2, 0, -1, -2, bound-1, 1, 0, -1, bound, 2, 1, 0)},
		{putFact(putFact(putFact(top, 1, 2, -1), 2, 3, -1), 3, 1, 1), impl.Facts{}},
		{putFact(putFact(putFact(top, 3, 2, -1), 2, 1, -1), 1, 3, 1), impl.Facts{}},
	} {
		wantFacts(t, impl.FactsClose(one.from), one.want, i)
	}
}

// A way over all symbols, in whatever order they stand, and one back.
func TestLongWays(t *testing.T) {
	for turn := 1; turn < 13; turn++ {
		for _, last := range []int{0, -12 * 3, -12*3 - 1} {
			f := capsOf(13)
			at := 0
			for range 12 {
				to := (at + turn) % 13
				f, at = putFact(f, at, to, 3), to
			}
			if last != 0 {
				f = putFact(f, at, 0, last)
			}
			wantClosed(t, f)
			got := impl.FactsClose(f)
			if last < -12*3 {
				wantNoFacts(t, got, turn)
			} else if mostAt(got, 0, at) != 12*3 {
				t.Fatalf("%d: %v", turn, got)
			}
		}
	}
}

func TestNothingIsClosed(t *testing.T) {
	for _, f := range append(append(wrongFacts(), someNones()...), impl.Facts{}, factsOf(0, []int{}...)) {
		wantNoFacts(t, impl.FactsClose(f), f)
	}
}

func TestFactsLeq(t *testing.T) {
	pairsOfFacts(func(a, b impl.Facts, fit bool) {
		want := false
		if fit {
			low := closedOrNone(a)
			want = isNoFacts(low) || !isNoFacts(b)
			for at := range low.Most {
				want = want && low.Most[at] <= b.Most[at]
			}
		}
		if impl.FactsLeq(a, b) != want {
			t.Fatalf("%v in %v: want %v", a, b, want)
		}
	})
}

func TestOrderOfFacts(t *testing.T) {
	sum := putFact(putFact(capsOf(3), 1, 2, 2), 2, 0, 3) // so symbol 1 is at most 5
	five, four := putFact(capsOf(3), 1, 0, 5), putFact(capsOf(3), 1, 0, 4)
	// Of the second the numbers are asked as they stand.
	loose := putFact(sum, 1, 0, 4)
	tight := impl.FactsClose(loose)
	none := someNones()[0]
	for i, one := range []struct {
		a, b impl.Facts
		want bool
	}{
		{sum, five, true}, {sum, four, false}, {five, sum, false}, {sum, sum, true}, {sum, capsOf(3), true}, {capsOf(3), sum, false},
		{tight, loose, true}, {loose, tight, true}, {sum, impl.FactsClose(sum), true}, {four, five, true}, {five, four, false},
		{impl.Facts{}, sum, true}, {impl.Facts{}, impl.Facts{}, true}, {sum, impl.Facts{}, false}, {capsOf(1), impl.Facts{}, false},
		{none, impl.Facts{}, true}, {none, none, true}, {impl.Facts{}, none, true}, {factsOf(2, 0, 0, 0, 0), none, false}, {capsOf(2), none, false},
		{none, capsOf(2), true}, {none, capsOf(3), false}, {capsOf(2), capsOf(3), false}, {capsOf(3), capsOf(2), false},
		{impl.Facts{}, factsOf(0, 0), false}, {none, factsOf(0, 0), false}, {factsOf(0, 0), impl.Facts{}, false},
		// Though the second closes to none, its numbers are asked.
		{factsOf(2, 0, -4, 4, 0), factsOf(2, 0, -4, 3, 0), false}, {factsOf(2, 0, 3, -3, 0), factsOf(2, 0, 2, -3, 0), false},
	} {
		if impl.FactsLeq(one.a, one.b) != one.want {
			t.Fatalf("%d: %v in %v: want %v", i, one.a, one.b, one.want)
		}
	}
}

func TestFactsJoin(t *testing.T) {
	pairsOfFacts(func(a, b impl.Facts, fit bool) {
		var want impl.Facts
		if fit {
			low, high := closedOrNone(a), closedOrNone(b)
			switch {
			case isNoFacts(low):
				want = high
			case isNoFacts(high):
				want = low
			default:
				want = factsBy(a.Size, func(i, j int) int { return max(mostAt(low, i, j), mostAt(high, i, j)) })
			}
		}
		wantFacts(t, impl.FactsJoin(a, b), want, "join", a, b)
	})
}

func TestJoinsAreClosed(t *testing.T) {
	sum := putFact(putFact(capsOf(3), 1, 2, 2), 2, 0, 3)
	wantFacts(t, impl.FactsJoin(sum, impl.Facts{}), impl.FactsClose(sum))
	wantFacts(t, impl.FactsJoin(impl.Facts{}, sum), impl.FactsClose(sum))
	five := putFact(capsOf(3), 1, 0, 5)
	for _, join := range []impl.Facts{impl.FactsJoin(sum, five), impl.FactsJoin(five, sum)} {
		if mostAt(join, 1, 0) != 5 || mostAt(join, 2, 0) != bound || mostAt(join, 1, 2) != bound+5 {
			t.Fatal(join)
		}
	}
	none := factsOf(3, 0, 1, bound, bound, 0, -3, 1, gap, 0)
	wantFacts(t, impl.FactsJoin(none, sum), impl.FactsClose(sum))
	wantFacts(t, impl.FactsJoin(sum, none), impl.FactsClose(sum))
	wantNoFacts(t, impl.FactsJoin(none, none))
	wantNoFacts(t, impl.FactsJoin(none, impl.Facts{}))
	wantNoFacts(t, impl.FactsJoin(impl.Facts{}, none))
	wantNoFacts(t, impl.FactsJoin(none, capsOf(2)))
	wantNoFacts(t, impl.FactsJoin(capsOf(2), none))
}

func TestFactsMeet(t *testing.T) {
	pairsOfFacts(func(a, b impl.Facts, fit bool) {
		var want impl.Facts
		if fit && !isNoFacts(a) && !isNoFacts(b) {
			want = closedByRounds(factsBy(a.Size, func(i, j int) int { return min(mostAt(a, i, j), mostAt(b, i, j)) }))
		}
		wantFacts(t, impl.FactsMeet(a, b), want, "meet", a, b)
	})
	a, b := putFact(capsOf(3), 1, 2, 2), putFact(capsOf(3), 2, 0, 3)
	wantFacts(t, impl.FactsMeet(a, b), factsOf(3, 0, bound, bound, 5, 0, 2, 3, bound+3, 0))
	wantNoFacts(t, impl.FactsMeet(factsOf(2, 0, -5, bound, 0), factsOf(2, 0, bound, 4, 0)))
	wantFacts(t, impl.FactsMeet(factsOf(2, 0, -5, bound, 0), factsOf(2, 0, bound, 5, 0)), factsOf(2, 0, -5, 5, 0))
}

// stepped: as the document says it, with all that can come sorted out first.
func stepped(c, top int, steps []int) int {
	ends := []int{top}
	for _, step := range steps {
		ends = append(ends, step, -step)
	}
	slices.Sort(ends)
	return ends[slices.IndexFunc(ends, func(end int) bool { return end >= c })]
}

func widenedFacts(a, b impl.Facts, steps []int) impl.Facts {
	next := closedOrNone(b)
	switch {
	case isNoFacts(a):
		return next
	case isNoFacts(next):
		return a
	}
	return factsBy(a.Size, func(i, j int) int {
		if mostAt(next, i, j) <= mostAt(a, i, j) {
			return mostAt(a, i, j)
		}
		return stepped(mostAt(next, i, j), capAt(i, j), steps)
	})
}

func TestFactsWiden(t *testing.T) {
	for _, steps := range someSteps() {
		pairsOfFacts(func(a, b impl.Facts, fit bool) {
			var want impl.Facts
			if fit {
				want = widenedFacts(a, b, steps)
			}
			wantFacts(t, impl.FactsWiden(a, b, steps), want, "widen", a, b, steps)
		})
	}
}

// What one number becomes: the least that is not below it among the steps,
// their opposites and the cap.
func TestWidenedNumbers(t *testing.T) {
	for _, steps := range append(someSteps(), []int{-10, 0, 4, 7}, []int{3, 5}, []int{-5, -3}) {
		for _, c := range append(farEnds(), run(-12, 12)...) {
			for _, up := range []int{1, 2, 5, bound} {
				a, b := factsOf(2, 0, bound, c, 0), factsOf(2, 0, bound, c+up, 0)
				if impl.FactsOk(b) && c+up >= -bound {
					wantFacts(t, impl.FactsWiden(a, b, steps), factsOf(2, 0, bound, stepped(c+up, bound, steps), 0), c, up, steps)
				}
				d, e := putFact(capsOf(3), 1, 2, c), putFact(capsOf(3), 1, 2, c+up)
				wantFacts(t, impl.FactsWiden(d, e, steps), widenedFacts(d, e, steps), d, e, steps)
			}
		}
	}
	for i, one := range []struct {
		c, up int
		steps []int
		want  int
	}{
		{0, 1, nil, bound}, {0, 1, []int{}, bound}, {0, 1, []int{1}, 1}, {0, 1, []int{-1}, 1}, {0, 2, []int{1}, bound}, {0, 2, []int{-3, 5}, 3},
		{0, 2, []int{-5, 3}, 3}, {-9, -7, []int{0, 7}, -7}, {-9, -8, []int{0, 7}, -7}, {-9, -6, []int{0, 7}, 0}, {-9, -6, []int{-6, 7}, -6},
		{5, 6, []int{bound}, bound}, {5, 6, []int{-bound}, bound}, {5, 6, []int{-bound, bound - 1}, bound - 1},
		{-bound, 1 - bound, []int{bound - 1}, 1 - bound}, {7, 7, []int{8}, 7}, {7, 6, []int{8}, 7},
	} {
		got := impl.FactsWiden(factsOf(2, 0, bound, one.c, 0), factsOf(2, 0, bound, one.up, 0), one.steps)
		wantFacts(t, got, factsOf(2, 0, bound, one.want, 0), i)
	}
	// Between two symbols beside 0 the cap is above all steps.
	got := impl.FactsWiden(putFact(capsOf(3), 1, 2, 0), putFact(capsOf(3), 1, 2, bound+1), []int{-bound, 0, bound})
	wantFacts(t, got, capsOf(3))
}

// What is widened is not closed, nor is what is ahead; what comes to it is.
func TestWidenedFactsAreNotClosed(t *testing.T) {
	sum := putFact(putFact(capsOf(3), 1, 2, 2), 2, 0, 3)
	more := putFact(putFact(capsOf(3), 1, 2, 2), 2, 0, 4)
	wide := putFact(putFact(capsOf(3), 1, 2, 2), 2, 0, 10)
	wantFacts(t, impl.FactsWiden(sum, sum, nil), sum)
	wantFacts(t, impl.FactsWiden(sum, more, []int{10}), wide)
	wantFacts(t, impl.FactsWiden(sum, impl.Facts{}, []int{10}), sum)
	wantFacts(t, impl.FactsWiden(sum, factsOf(3, 0, 1, bound, bound, 0, -3, 1, gap, 0), nil), sum)
	wantFacts(t, impl.FactsWiden(impl.Facts{}, sum, []int{10}), impl.FactsClose(sum))
	wantNoFacts(t, impl.FactsWiden(impl.Facts{}, impl.Facts{}, nil))
	for _, none := range someNones() {
		wantFacts(t, impl.FactsWiden(none, none, nil), none)
		wantFacts(t, impl.FactsWiden(none, impl.Facts{}, nil), none)
		wantNoFacts(t, impl.FactsWiden(impl.Facts{}, none, nil))
		// Though it closes to none, its numbers stand.
		wantFacts(t, impl.FactsWiden(none, capsOf(none.Size), nil), capsOf(none.Size))
		wantFacts(t, impl.FactsWiden(capsOf(none.Size), none, nil), capsOf(none.Size))
	}
	wantFacts(t, impl.FactsWiden(factsOf(2, 0, 3, -4, 0), factsOf(2, 0, 3, 4, 0), []int{6}), factsOf(2, 0, 3, 6, 0))
	// By its ways the second says 5 of symbol 1, and that is asked.
	wantFacts(t, impl.FactsWiden(putFact(capsOf(3), 1, 0, 5), sum, nil), putFact(capsOf(3), 1, 0, 5))
}

func TestStepsOfFacts(t *testing.T) {
	a, b := factsOf(2, 0, 0, 0, 0), factsOf(2, 0, 1, 1, 0)
	for _, count := range []int{0, 1, 19, 20} {
		steps := mostSteps(1-count, count)
		wantFacts(t, impl.FactsWiden(a, b, steps), widenedFacts(a, b, steps), steps)
	}
	for _, steps := range [][]int{
		mostSteps(-20, 21), mostSteps(0, 500), {5, 5}, {0, 0, 1}, {0, 1, 1}, {1, 0}, {0, 2, 1}, {3, 2, 1}, {5, 6, 5}, {bound + 1}, {0, bound + 1},
		{-bound - 1}, {-bound - 1, 0}, {gap}, {-gap}, {math.MinInt}, {math.MaxInt}, {0, math.MaxInt}, {math.MaxInt, math.MinInt}, {bound, -bound},
	} {
		for _, one := range mixedFacts() {
			wantNoFacts(t, impl.FactsWiden(one, one, steps), one, steps)
			wantNoFacts(t, impl.FactsWiden(one, impl.Facts{}, steps), one, steps)
			wantNoFacts(t, impl.FactsWiden(impl.Facts{}, one, steps), one, steps)
		}
	}
}

// changesOf: how often each number changes while facts are widened by what is
// told, again and again; none is told from facts by its size.
func changesOf(t *testing.T, start impl.Facts, steps []int, rounds int, grow func(now impl.Facts) impl.Facts) (impl.Facts, []int) {
	t.Helper()
	now := start
	var changes []int
	for range rounds {
		other := grow(now)
		wide := impl.FactsWiden(now, other, steps)
		if changes == nil {
			changes = make([]int, len(wide.Most))
		}
		for at, most := range wide.Most {
			if isNoFacts(now) || now.Most[at] != most {
				changes[at]++
			}
		}
		if !isNoFacts(now) && !impl.FactsLeq(now, wide) || !impl.FactsLeq(other, wide) {
			t.Fatalf("%v by %v and %v: %v", now, other, steps, wide)
		}
		now = wide
	}
	for at, count := range changes {
		if count > 2*len(steps)+2 {
			t.Fatalf("%v by %v: number %d changes %d times", start, steps, at, count)
		}
	}
	return now, changes
}

// Promise 8: a number that is widened again and again with the same steps
// changes at most 2 * steps + 2 times.
func TestWideningOfFactsEnds(t *testing.T) {
	next := draws(37)
	for _, steps := range someSteps() {
		for turn := range 12 {
			size := 2 + turn%3
			start := impl.Facts{}
			if turn > 3 {
				start = factsBy(size, func(i, j int) int {
					if i == j {
						return 0
					}
					return next(12) - 6
				})
			}
			end, _ := changesOf(t, start, steps, 300, func(now impl.Facts) impl.Facts {
				if isNoFacts(now) {
					return factsAround(next, size, someRow(next, size))
				}
				return factsBy(size, func(i, j int) int { return min(mostAt(now, i, j)+next(3), capAt(i, j)) })
			})
			if end.Size != size {
				t.Fatal(end)
			}
		}
	}
}

// The most that can be: from none to below all, over each step and each
// opposite, up to the cap.
func TestEachStepIsMet(t *testing.T) {
	steps := []int{1, 3, 5, 7, 9}
	_, changes := changesOf(t, impl.Facts{}, steps, 50, func(now impl.Facts) impl.Facts {
		if isNoFacts(now) {
			return factsOf(2, 0, bound, -11, 0)
		}
		return factsOf(2, 0, bound, min(mostAt(now, 1, 0)+1, bound), 0)
	})
	if changes[2] != 2*len(steps)+2 {
		t.Fatal(changes)
	}
}

// Whatever comes, also what does not grow out of the facts that are widened.
func TestWideningFactsByAnything(t *testing.T) {
	next := draws(47)
	for _, steps := range someSteps() {
		for range 20 {
			size := 2 + next(3)
			changesOf(t, impl.Facts{}, steps, 60, func(now impl.Facts) impl.Facts {
				if isNoFacts(now) || next(4) > 0 {
					return factsAround(next, size, someRow(next, size))
				}
				return someFacts(next, size)
			})
		}
	}
}

// addedFact: as the document says it.
func addedFact(f impl.Facts, i, j, c int) impl.Facts {
	switch {
	case isNoFacts(f), c < -gap:
		return impl.Facts{}
	case c <= capAt(i, j) && c < mostAt(f, i, j):
		f = putFact(f, i, j, c)
	}
	return closedByRounds(f)
}

func someNumbers() []int {
	return []int{
		math.MinInt, math.MinInt + 1, -gap - 1, -gap, -gap + 1, -bound - 1, -bound, -bound + 1, -9, -5, -3, -1, 0, 1, 2, 5, 8,
		bound - 1, bound, bound + 1, gap - 1, gap, gap + 1, math.MaxInt - 1, math.MaxInt,
	}
}

// noSyms: symbols that facts of this size have not.
func noSyms(size int) []int {
	return []int{-1, -2, -13, size, size + 1, 14, 169, 1 << 32, math.MinInt, math.MaxInt}
}

func TestFactsAdd(t *testing.T) {
	for _, f := range mixedFacts() {
		for i := range min(f.Size, 4) {
			for j := range min(f.Size, 4) {
				for _, c := range someNumbers() {
					wantFacts(t, impl.FactsAdd(f, i, j, c), addedFact(f, i, j, c), "add", f, i, j, c)
				}
			}
		}
	}
}

func TestWhatIsAdded(t *testing.T) {
	f := factsOf(2, 0, -2, 5, 0)
	loose := putFact(putFact(capsOf(3), 1, 2, 2), 2, 0, 3)
	for i, one := range []struct {
		f       impl.Facts
		i, j, c int
		want    impl.Facts
	}{
		{f, 1, 0, 4, factsOf(2, 0, -2, 4, 0)}, {f, 1, 0, 5, f}, {f, 1, 0, 6, f}, {f, 1, 0, 2, factsOf(2, 0, -2, 2, 0)}, {f, 1, 0, 1, impl.Facts{}},
		{f, 0, 1, -3, factsOf(2, 0, -3, 5, 0)}, {f, 0, 1, -5, factsOf(2, 0, -5, 5, 0)}, {f, 0, 1, -6, impl.Facts{}},
		{f, 1, 0, bound, f}, {f, 1, 0, bound + 1, f}, {f, 1, 0, math.MaxInt, f}, {f, 1, 0, -gap, impl.Facts{}}, {f, 1, 0, -gap - 1, impl.Facts{}},
		// Of a symbol and itself 0 is the cap, and what is less is wrong.
		{f, 1, 1, 0, f}, {f, 1, 1, 1, f}, {f, 1, 1, -1, impl.Facts{}}, {f, 0, 0, 0, f}, {f, 0, 0, bound, f}, {f, 0, 0, -1, impl.Facts{}},
		{f, 1, 1, -gap, impl.Facts{}}, {f, 1, 1, -gap - 1, impl.Facts{}}, {capsOf(13), 12, 12, -1, impl.Facts{}}, {capsOf(1), 0, 0, -1, impl.Facts{}},
		{capsOf(3), 1, 2, -gap, factsOf(3, 0, bound, -bound, -bound, 0, -gap, bound, gap, 0)}, {capsOf(3), 1, 2, -gap - 1, impl.Facts{}},
		{capsOf(3), 1, 2, math.MinInt, impl.Facts{}}, {capsOf(3), 1, 2, gap, capsOf(3)}, {capsOf(3), 1, 2, gap + 1, capsOf(3)},
		{capsOf(3), 1, 2, gap - 1, putFact(capsOf(3), 1, 2, gap-1)}, {capsOf(2), 1, 0, -bound, factsOf(2, 0, bound, -bound, 0)},
		{capsOf(2), 1, 0, -bound - 1, impl.Facts{}}, {capsOf(2), 0, 1, bound + 1, capsOf(2)},
		// Where nothing is added it is closed all the same.
		{loose, 1, 2, 2, impl.FactsClose(loose)}, {loose, 1, 2, 3, impl.FactsClose(loose)}, {loose, 1, 0, 5, impl.FactsClose(loose)},
		{loose, 1, 2, gap + 1, impl.FactsClose(loose)}, {loose, 1, 1, 1, impl.FactsClose(loose)}, {loose, 2, 2, 0, impl.FactsClose(loose)},
		{factsOf(2, 0, 3, -4, 0), 1, 0, bound + 1, impl.Facts{}}, {impl.Facts{}, 0, 0, 0, impl.Facts{}},
	} {
		wantFacts(t, impl.FactsAdd(one.f, one.i, one.j, one.c), one.want, i)
	}
}

func freedFacts(f impl.Facts, i int) impl.Facts {
	closed := closedOrNone(f)
	return factsBy(closed.Size, func(a, b int) int {
		if a == i || b == i {
			return capAt(a, b)
		}
		return mostAt(closed, a, b)
	})
}

func TestFactsForget(t *testing.T) {
	for _, f := range mixedFacts() {
		for i := 1; i < f.Size; i++ {
			wantFacts(t, impl.FactsForget(f, i), freedFacts(f, i), "forget", f, i)
		}
	}
	// What follows by the symbol stays, what is said of it goes; it is not
	// closed again, else symbol 1 less symbol 2 were less than the cap.
	sum := putFact(putFact(capsOf(3), 1, 2, 2), 2, 0, 3)
	wantFacts(t, impl.FactsForget(sum, 2), putFact(capsOf(3), 1, 0, 5))
	wantFacts(t, impl.FactsForget(sum, 1), putFact(capsOf(3), 2, 0, 3))
	wantFacts(t, impl.FactsForget(factsOf(2, 0, -2, 5, 0), 1), capsOf(2))
}

func shiftedFacts(f impl.Facts, i, c int) impl.Facts {
	f = closedOrNone(f)
	if isNoFacts(f) {
		return f
	}
	return closedByRounds(factsBy(f.Size, func(a, b int) int {
		most := mostAt(f, a, b)
		if a == i && b != i {
			most += c
		}
		if b == i && a != i {
			most -= c
		}
		return min(most, capAt(a, b))
	}))
}

func gapNumbers() []int {
	return slices.DeleteFunc(someNumbers(), func(c int) bool { return c < -gap || c > gap })
}

func TestFactsShift(t *testing.T) {
	for _, f := range mixedFacts() {
		for i := 1; i < f.Size; i++ {
			for _, c := range gapNumbers() {
				wantFacts(t, impl.FactsShift(f, i, c), shiftedFacts(f, i, c), "shift", f, i, c)
			}
		}
	}
}

func TestWhatIsShifted(t *testing.T) {
	f := factsOf(2, 0, -2, 5, 0)
	loose := putFact(putFact(capsOf(3), 1, 2, 2), 2, 0, 3)
	for i, one := range []struct {
		f    impl.Facts
		i, c int
		want impl.Facts
	}{
		{f, 1, 0, f}, {f, 1, 3, factsOf(2, 0, -5, 8, 0)}, {f, 1, -3, factsOf(2, 0, 1, 2, 0)},
		{f, 1, bound - 5, factsOf(2, 0, 3-bound, bound, 0)}, {f, 1, bound - 4, factsOf(2, 0, 2-bound, bound, 0)}, {f, 1, bound - 2, factsOf(2, 0, -bound, bound, 0)},
		{f, 1, bound - 1, impl.Facts{}}, {f, 1, -bound - 5, factsOf(2, 0, bound, -bound, 0)}, {f, 1, -bound - 6, impl.Facts{}},
		{f, 1, gap, impl.Facts{}}, {f, 1, -gap, impl.Facts{}},
		{factsOf(2, 0, bound, -bound, 0), 1, gap, factsOf(2, 0, -bound, bound, 0)}, {factsOf(2, 0, -bound, bound, 0), 1, -gap, factsOf(2, 0, bound, -bound, 0)},
		{factsOf(2, 0, -bound, bound, 0), 1, 1, impl.Facts{}}, {capsOf(2), 1, gap, factsOf(2, 0, -bound, bound, 0)}, {capsOf(2), 1, 1, factsOf(2, 0, bound-1, bound, 0)},
		{capsOf(2), 1, -gap, factsOf(2, 0, bound, -bound, 0)}, {capsOf(2), 1, 0, capsOf(2)},
		// What is cut down makes others less: symbol 2 is at most 1 more.
		{factsOf(3, 0, bound, bound, bound, 0, -1, bound, 1, 0), 1, 5, impl.FactsClose(factsOf(3, 0, bound-5, bound, bound, 0, 4, bound, -4, 0))},
		{loose, 1, 0, impl.FactsClose(loose)}, {loose, 2, 0, impl.FactsClose(loose)}, {loose, 1, 10, factsOf(3, 0, bound-10, bound, 15, 0, 12, 3, bound-7, 0)},
		{factsOf(2, 0, 3, -4, 0), 1, 1, impl.Facts{}}, {impl.Facts{}, 1, 0, impl.Facts{}},
	} {
		wantFacts(t, impl.FactsShift(one.f, one.i, one.c), one.want, i)
	}
}

func TestFactsCopy(t *testing.T) {
	for _, f := range mixedFacts() {
		for i := 1; i < min(f.Size, 5); i++ {
			for j := range min(f.Size, 5) {
				for _, c := range gapNumbers() {
					if i == j {
						wantNoFacts(t, impl.FactsCopy(f, i, j, c), f, i, c)
						continue
					}
					want := addedFact(addedFact(freedFacts(f, i), i, j, c), j, i, -c)
					wantFacts(t, impl.FactsCopy(f, i, j, c), want, "copy", f, i, j, c)
				}
			}
		}
	}
	f := factsOf(2, 0, -2, 5, 0)
	wantFacts(t, impl.FactsCopy(f, 1, 0, 9), factsOf(2, 0, -9, 9, 0))
	wantFacts(t, impl.FactsCopy(f, 1, 0, bound), factsOf(2, 0, -bound, bound, 0))
	wantFacts(t, impl.FactsCopy(f, 1, 0, -bound), factsOf(2, 0, bound, -bound, 0))
	for _, c := range []int{bound + 1, -bound - 1, gap, -gap} {
		wantNoFacts(t, impl.FactsCopy(f, 1, 0, c), c)
	}
	// Both ends of the numbers are met by -MaxVal and MaxVal alone.
	wantFacts(t, impl.FactsCopy(capsOf(3), 1, 2, gap), factsOf(3, 0, -bound, bound, bound, 0, gap, -bound, -gap, 0))
	wantFacts(t, impl.FactsCopy(capsOf(3), 1, 2, -gap), factsOf(3, 0, bound, -bound, -bound, 0, -gap, bound, gap, 0))
	wantNoFacts(t, impl.FactsCopy(factsOf(2, 0, 3, -4, 0), 1, 0, 1))
}

// Symbols and numbers that are none: symbol 0 has no other number, a symbol
// becomes none of itself, and the bounds of c are met on both sides.
func TestSymbolsThatAreNone(t *testing.T) {
	for _, f := range mixedFacts() {
		for _, i := range noSyms(f.Size) {
			wantNoFacts(t, impl.FactsAdd(f, i, 0, 1), f, i)
			wantNoFacts(t, impl.FactsAdd(f, 0, i, 1), f, i)
			wantNoFacts(t, impl.FactsAdd(f, i, i, math.MaxInt), f, i)
			wantNoFacts(t, impl.FactsForget(f, i), f, i)
			wantNoFacts(t, impl.FactsShift(f, i, 1), f, i)
			wantNoFacts(t, impl.FactsCopy(f, i, 0, 1), f, i)
			wantNoFacts(t, impl.FactsCopy(f, 1, i, 1), f, i)
			wantNoFacts(t, impl.FactsBound(f, i, span(-bound, bound)), f, i)
			wantRange(t, impl.FactsRange(f, i), noRange(), f, i)
		}
		wantNoFacts(t, impl.FactsForget(f, 0), f)
		for _, c := range someNumbers() {
			wantNoFacts(t, impl.FactsShift(f, 0, c), f, c)
			wantNoFacts(t, impl.FactsCopy(f, 0, 0, c), f, c)
			wantNoFacts(t, impl.FactsCopy(f, 0, 1, c), f, c)
			wantNoFacts(t, impl.FactsCopy(f, 1, 1, c), f, c)
			if c < -gap || c > gap {
				wantNoFacts(t, impl.FactsShift(f, 1, c), f, c)
				wantNoFacts(t, impl.FactsCopy(f, 1, 0, c), f, c)
				wantNoFacts(t, impl.FactsCopy(f, 1, 2, c), f, c)
			}
		}
	}
}

func TestFactsRange(t *testing.T) {
	for _, f := range mixedFacts() {
		closed := closedOrNone(f)
		for i := range f.Size {
			want := noRange()
			if !isNoFacts(closed) {
				want = span(-mostAt(closed, 0, i), mostAt(closed, i, 0))
			}
			wantRange(t, impl.FactsRange(f, i), want, f, i)
		}
	}
	wantRange(t, impl.FactsRange(capsOf(1), 0), span(0, 0))
	wantRange(t, impl.FactsRange(capsOf(2), 0), span(0, 0))
	wantRange(t, impl.FactsRange(capsOf(2), 1), span(-bound, bound))
	wantRange(t, impl.FactsRange(factsOf(2, 0, -2, 5, 0), 1), span(2, 5))
	wantRange(t, impl.FactsRange(factsOf(2, 0, -5, 4, 0), 1), noRange())
	wantRange(t, impl.FactsRange(factsOf(2, 0, -5, 4, 0), 0), noRange())
	// By the ways, not as it stands.
	wantRange(t, impl.FactsRange(putFact(putFact(capsOf(3), 1, 2, 2), 2, 0, 3), 1), span(-bound, 5))
	wantRange(t, impl.FactsRange(impl.Facts{}, 0), noRange())
}

func TestFactsBound(t *testing.T) {
	ranges := append(rangesOver([]int{-bound, 1 - bound, -3, 0, 2, 4, 6, bound - 1, bound}), span(2, 5))
	for _, f := range mixedFacts() {
		for i := range min(f.Size, 4) {
			for _, r := range ranges {
				var want impl.Facts
				if r != noRange() {
					want = addedFact(addedFact(f, i, 0, r.Hi), 0, i, -r.Lo)
				}
				wantFacts(t, impl.FactsBound(f, i, r), want, "bound", f, i, r)
			}
			for _, r := range wrongRanges() {
				wantNoFacts(t, impl.FactsBound(f, i, r), f, i, r)
			}
		}
	}
	f := factsOf(2, 0, -2, 5, 0)
	for i, one := range []struct {
		at   int
		r    impl.Range
		want impl.Facts
	}{
		{1, span(3, 4), factsOf(2, 0, -3, 4, 0)}, {1, span(0, 9), f}, {1, span(-bound, bound), f}, {1, span(5, 9), factsOf(2, 0, -5, 5, 0)},
		{1, span(6, 9), impl.Facts{}}, {1, span(-3, 1), impl.Facts{}}, {1, span(-3, 2), factsOf(2, 0, -2, 2, 0)}, {1, noRange(), impl.Facts{}},
		{0, span(0, 0), f}, {0, span(-1, 1), f}, {0, span(1, 1), impl.Facts{}}, {0, span(-1, -1), impl.Facts{}}, {0, span(0, bound), f}, {0, noRange(), impl.Facts{}},
	} {
		wantFacts(t, impl.FactsBound(f, one.at, one.r), one.want, i)
	}
}

// Facts that are neither ok nor none, and none itself.
func TestNothingOfWrongFacts(t *testing.T) {
	for _, f := range append(wrongFacts(), impl.Facts{}, factsOf(0, []int{}...)) {
		for _, i := range []int{0, 1, 2, 12, 13, f.Size, f.Size - 1} {
			for _, c := range []int{0, 1, -1, bound, math.MinInt, math.MaxInt} {
				wantNoFacts(t, impl.FactsAdd(f, i, 0, c), f, i, c)
				wantNoFacts(t, impl.FactsAdd(f, i, 1, c), f, i, c)
				wantNoFacts(t, impl.FactsAdd(f, i, i, c), f, i, c)
				wantNoFacts(t, impl.FactsShift(f, i, c), f, i, c)
				wantNoFacts(t, impl.FactsCopy(f, i, 0, c), f, i, c)
				wantNoFacts(t, impl.FactsCopy(f, 1, i, c), f, i, c)
			}
			wantNoFacts(t, impl.FactsForget(f, i), f, i)
			wantNoFacts(t, impl.FactsBound(f, i, span(0, 0)), f, i)
			wantNoFacts(t, impl.FactsBound(f, i, noRange()), f, i)
			wantRange(t, impl.FactsRange(f, i), noRange(), f, i)
		}
	}
	for _, f := range someNones() {
		for i := range f.Size {
			wantNoFacts(t, impl.FactsAdd(f, i, 0, bound+1), f, i)
			wantNoFacts(t, impl.FactsForget(f, i), f, i)
			wantNoFacts(t, impl.FactsShift(f, i, 0), f, i)
			wantNoFacts(t, impl.FactsCopy(f, i, 0, 0), f, i)
			wantNoFacts(t, impl.FactsBound(f, i, span(-bound, bound)), f, i)
			wantRange(t, impl.FactsRange(f, i), noRange(), f, i)
		}
	}
}

// Promise 8: what is so of two is so of their join and of what is widened,
// what is so of both of their meeting; and it stays so when facts are closed
// and added to by what is so.
func TestWhatIsSoStaysSo(t *testing.T) {
	next := draws(57)
	steps := someSteps()
	for range 4000 {
		size := 1 + next(5)
		row, other := someRow(next, size), someRow(next, size)
		f, both := factsAround(next, size, row), factsAround(next, size, row, other)
		beside := factsAround(next, size, other)
		wantHas(t, f, row)
		wantHas(t, impl.FactsClose(f), row, "closed", f)
		for _, g := range []impl.Facts{beside, someFacts(next, size), impl.Facts{}} {
			wantHas(t, impl.FactsJoin(f, g), row, "join", f, g)
			wantHas(t, impl.FactsJoin(g, f), row, "join", g, f)
			by := steps[next(len(steps))]
			wantHas(t, impl.FactsWiden(f, g, by), row, "widen", f, g, by)
			wantHas(t, impl.FactsWiden(g, f, by), row, "widen", g, f, by)
		}
		wantHas(t, impl.FactsMeet(f, both), row, "meet", f, both)
		wantHas(t, impl.FactsMeet(both, f), row, "meet", both, f)
		wantHas(t, impl.FactsMeet(both, beside), other, "meet", both, beside)
		i, j := next(size), next(size)
		for _, more := range []int{0, 1, 5, gap} {
			wantHas(t, impl.FactsAdd(f, i, j, row[i]-row[j]+more), row, "add", f, i, j)
		}
		if got := impl.FactsAdd(f, i, j, row[i]-row[j]-1); impl.FactsHas(got, row) {
			t.Fatalf("%v has %v", got, row)
		}
		for k, x := range row {
			if r := impl.FactsRange(f, k); !impl.RangeHas(r, x) {
				t.Fatalf("%v: symbol %d of %v is not in %v", f, k, row, r)
			}
			wantHas(t, impl.FactsBound(f, k, span(x, x)), row, "bound", f, k)
			wantHas(t, impl.FactsBound(f, k, span(max(x-2, -bound), min(x+1, bound))), row, "bound", f, k)
		}
	}
}

// Promise 8: with the new number in its place what is known when a symbol is
// forgotten, shifted, copied to or bound is so.
func TestNewNumbersAreKept(t *testing.T) {
	next := draws(67)
	for range 4000 {
		size := 2 + next(4)
		row := someRow(next, size)
		f := factsAround(next, size, row, someRow(next, size))
		i, j := 1+next(size-1), next(size)
		for _, x := range []int{-bound, row[i] - 1, row[i], row[i] + 1, next(9) - 4, bound, row[j]} {
			if x < -bound || x > bound {
				continue
			}
			moved := slices.Clone(row)
			moved[i] = x
			wantHas(t, impl.FactsForget(f, i), moved, "forget", f, i)
			wantHas(t, impl.FactsBound(impl.FactsForget(f, i), i, span(x, x)), moved, "bound", f, i)
			wantHas(t, impl.FactsShift(f, i, x-row[i]), moved, "shift", f, i, x-row[i])
			if i != j {
				got := impl.FactsCopy(f, i, j, x-row[j])
				wantHas(t, got, moved, "copy", f, i, j, x-row[j])
				if most := mostAt(got, i, j); most != x-row[j] || mostAt(got, j, i) != -most {
					t.Fatalf("%v, %d, %d, %d: %v", f, i, j, x-row[j], got)
				}
			}
		}
	}
}

// All rows near 0: what closing, joining and so on say is so of no more than
// it must be, as far as these rows can tell.
func TestFactsOverAllSmallRows(t *testing.T) {
	var all [][]int
	for _, x := range run(-3, 3) {
		for _, y := range run(-3, 3) {
			all = append(all, []int{0, x, y})
		}
	}
	next := draws(77)
	for range 500 {
		a, b := someFacts(next, 3), factsAround(next, 3, someRow(next, 3), someRow(next, 3))
		closed, join, meet := impl.FactsClose(a), impl.FactsJoin(a, b), impl.FactsMeet(a, b)
		inA := slices.DeleteFunc(slices.Clone(all), func(row []int) bool { return !impl.FactsHas(a, row) })
		for _, row := range all {
			ofA, ofB := impl.FactsHas(a, row), impl.FactsHas(b, row)
			if impl.FactsHas(closed, row) != ofA || impl.FactsHas(meet, row) != (ofA && ofB) {
				t.Fatalf("%v and %v: closed %v, meet %v and %v", a, b, closed, meet, row)
			}
			if (ofA || ofB) && !impl.FactsHas(join, row) || impl.FactsLeq(a, b) && ofA && !ofB {
				t.Fatalf("%v and %v: join %v and %v", a, b, join, row)
			}
		}
		for _, row := range inA {
			for i := 1; i < 3; i++ {
				if r := impl.FactsRange(a, i); !impl.RangeHas(r, row[i]) {
					t.Fatalf("%v: %v and %v", a, r, row)
				}
			}
		}
	}
}

func TestFactsText(t *testing.T) {
	f := factsOf(3, 0, bound, bound, bound, 0, gap, bound, gap, 0)
	xy := []string{"x", "y"}
	for i, one := range []struct {
		f     impl.Facts
		names []string
		want  string
	}{
		{putFact(f, 1, 0, 5), xy, "x <= 5"}, {putFact(f, 0, 1, -2), xy, "x >= 2"}, {putFact(f, 1, 2, 3), xy, "x - y <= 3"},
		{putFact(f, 2, 0, 5), xy, "y <= 5"}, {putFact(f, 0, 2, 2), xy, "y >= -2"}, {putFact(f, 2, 1, -3), xy, "y - x <= -3"},
		{putFact(f, 1, 0, 0), xy, "x <= 0"}, {putFact(f, 0, 1, 0), xy, "x >= 0"}, {putFact(f, 1, 2, 0), xy, "x - y <= 0"},
		{putFact(f, 1, 0, bound-1), xy, "x <= 999999"}, {putFact(f, 0, 1, bound-1), xy, "x >= -999999"}, {putFact(f, 2, 1, gap-1), xy, "y - x <= 1999999"},
		{putFact(f, 1, 0, -gap), xy, "x <= -2000000"}, {putFact(f, 0, 1, -gap), xy, "x >= 2000000"}, {putFact(f, 2, 1, -gap), xy, "y - x <= -2000000"},
		{putFact(f, 2, 1, bound), xy, "y - x <= 1000000"}, {f, xy, "any"}, {capsOf(1), nil, "any"}, {capsOf(1), []string{}, "any"},
		{factsOf(3, 0, -1, 2, 3, 0, 4, 5, -6, 0), xy, "x >= 1, y >= -2, x <= 3, x - y <= 4, y <= 5, y - x <= -6"},
		// As they stand, though more follows, or none.
		{putFact(putFact(f, 1, 2, 2), 2, 0, 3), xy, "x - y <= 2, y <= 3"}, {factsOf(2, 0, -5, 4, 0), []string{"i"}, "i >= 5, i <= 4"},
		{putFact(f, 1, 2, 3), []string{"i", "len(a)"}, "i - len(a) <= 3"}, {putFact(f, 2, 1, 3), []string{"i", "len(a)"}, "len(a) - i <= 3"},
		{putFact(f, 0, 2, -1), []string{"i", "len(a)"}, "len(a) >= 1"}, {putFact(f, 2, 0, 60), []string{"i", "len(a)"}, "len(a) <= 60"},
		{putFact(f, 1, 2, 1), []string{"a", "a"}, "a - a <= 1"}, {putFact(f, 1, 2, 1), []string{"len(b)", "len(b)"}, "len(b) - len(b) <= 1"},
		{putFact(f, 1, 2, 1), []string{"a1234567", "len(a1234567)"}, "a1234567 - len(a1234567) <= 1"}, {putFact(f, 1, 2, 1), []string{"lens", "len(lens)"}, "lens - len(lens) <= 1"},
	} {
		if got := impl.FactsText(one.f, one.names); got != one.want {
			t.Fatalf("%d: %q, want %q", i, got, one.want)
		}
	}
}

// lettersUpTo: so many names of one letter.
func lettersUpTo(count int) []string {
	var names []string
	for i := range count {
		names = append(names, string(rune('a'+i)))
	}
	return names
}

// By i, then by j, whatever is below its cap.
func TestOrderOfWhatIsSaid(t *testing.T) {
	for _, f := range mixedFacts() {
		if isNoFacts(f) {
			continue
		}
		names := append([]string{"0"}, lettersUpTo(f.Size-1)...)
		var said []string
		for i := range f.Size {
			for j := range f.Size {
				if c := mostAt(f, i, j); i == 0 && c < capAt(i, j) {
					said = append(said, names[j]+" >= "+strconv.Itoa(-c))
				} else if c < capAt(i, j) {
					said = append(said, strings.TrimSuffix(names[i]+" - "+names[j], " - 0")+" <= "+strconv.Itoa(c))
				}
			}
		}
		want := strings.Join(said, ", ")
		if want == "" {
			want = "any"
		}
		if got := impl.FactsText(f, names[1:]); got != want {
			t.Fatalf("%v: %q, want %q", f, got, want)
		}
	}
}

func TestNoneIsWritten(t *testing.T) {
	for _, names := range [][]string{nil, {}, {"x"}, {""}, {"7", "("}, lettersUpTo(12), make([]string, 500)} {
		for _, none := range []impl.Facts{{}, factsOf(0, []int{}...)} {
			if got := impl.FactsText(none, names); got != "none" {
				t.Fatalf("%q: %q", names, got)
			}
		}
		for _, wrong := range wrongFacts() {
			if got := impl.FactsText(wrong, names); got != "" {
				t.Fatalf("%v and %q: %q", wrong, names, got)
			}
		}
	}
}

func TestNamesThatAreNotAsSaid(t *testing.T) {
	for size := 1; size <= 13; size++ {
		for count := range 16 {
			got, want := impl.FactsText(capsOf(size), lettersUpTo(count)), ""
			if count == size-1 {
				want = "any"
			}
			if got != want {
				t.Fatalf("%d symbols, %d names: %q", size, count, got)
			}
		}
	}
	for _, name := range []string{
		"", " ", "X", "1", "7a", "a b", "a ", " a", "a_b", "é", "\xff", "a1234567b", "a\x00", "a\n", "-a", "a+1", "0", "none", "any",
		"len", "var", "array", "if", "to", "while", "len(", "len()", "len(a", "len(a))", "len((a)", "len(a) ", " len(a)", "len( a)", "len(a )", "len (a)",
		"len(len)", "len(if)", "len(1)", "len(A)", "len(a1234567b)", "len(len(a))", "len(a)b", "len(a,b)", "Len(a)", "le(a)", "en(a)", "(a)", "a)", "len[a]", "lena)", "len(\xff)",
	} {
		want := ""
		if name == "none" || name == "any" {
			want = "any"
		}
		for _, names := range [][]string{{name, "y", "z"}, {"y", name, "z"}, {"y", "len(z)", name}} {
			if got := impl.FactsText(capsOf(4), names); got != want {
				t.Fatalf("%q: %q", names, got)
			}
			if got := impl.FactsText(factsBy(4, func(i, j int) int { return 0 }), names); (got == "") != (want == "") {
				t.Fatalf("%q: %q", names, got)
			}
		}
	}
}

// answersOf: what all functions answer that give Facts.
func answersOf(a, b impl.Facts, steps []int) []impl.Facts {
	return []impl.Facts{
		impl.FactsClose(a), impl.FactsJoin(a, b), impl.FactsJoin(b, a), impl.FactsJoin(a, impl.Facts{}), impl.FactsMeet(a, b), impl.FactsMeet(b, a), impl.FactsWiden(a, b, steps),
		impl.FactsWiden(b, a, steps), impl.FactsWiden(a, impl.Facts{}, steps), impl.FactsWiden(impl.Facts{}, a, steps), impl.FactsAdd(a, 1, 2, gap), impl.FactsAdd(a, 2, 0, 1),
		impl.FactsForget(a, 1), impl.FactsShift(a, 1, 0), impl.FactsShift(a, 2, 3), impl.FactsCopy(a, 1, 2, 1), impl.FactsBound(a, 1, span(-3, 3)), impl.FactsTop(3),
	}
}

// Every answer is new memory, nothing is written into an argument nor behind
// it, what is behind it is not read, and the same is told each time.
func TestFactsAreKept(t *testing.T) {
	next := draws(87)
	room := []int{-5, 0, 5, 3, math.MaxInt}
	before := slices.Clone(room)
	for range 60 {
		one, other := someFacts(next, 3), factsAround(next, 3, someRow(next, 3))
		plain := answersOf(copyFacts(one), copyFacts(other), []int{-5, 0, 5})
		a := factsOf(3, append(slices.Clone(one.Most), math.MinInt, 7, 7)[:9]...)
		b := factsOf(3, append(slices.Clone(other.Most), math.MaxInt, 7, 7)[:9]...)
		for range 2 {
			for i, got := range answersOf(a, b, room[:3]) {
				wantFacts(t, got, plain[i], i, one, other)
				for at := range got.Most {
					got.Most[at] = 77
				}
				if spare := got.Most[:cap(got.Most)]; len(spare) > len(got.Most) {
					clear(spare)
				}
			}
			if !sameFacts(a, one) || !sameFacts(b, other) || a.Most[:10][9] != math.MinInt || b.Most[:10][9] != math.MaxInt {
				t.Fatalf("%v and %v have become %v and %v", one, other, a, b)
			}
		}
	}
	if !slices.Equal(room, before) {
		t.Fatalf("%v has become %v", before, room)
	}
}

func TestArgumentsOfAskingAreKept(t *testing.T) {
	f, row, names := factsOf(3, 0, 4, 5, 6, 0, 7, 8, 9, 0), []int{0, 1, 2, 3}, []string{"x", "len(y)", "?"}
	g := copyFacts(f)
	for range 2 {
		wantHas(t, f, row[:3])
		if impl.FactsText(f, names[:2]) != "x >= -4, len(y) >= -5, x <= 6, x - len(y) <= 7, len(y) <= 8, len(y) - x <= 9" || !impl.FactsLeq(f, g) {
			t.Fatal(impl.FactsText(f, names[:2]))
		}
		wantRange(t, impl.FactsRange(f, 1), span(-4, 6))
	}
	if !sameFacts(f, g) || !slices.Equal(row, []int{0, 1, 2, 3}) || !slices.Equal(names, []string{"x", "len(y)", "?"}) {
		t.Fatal(f, row, names)
	}
}
