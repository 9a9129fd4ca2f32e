package tests

import (
	"math"
	"slices"
	"strconv"
	"strings"
	"testing"

	"loop.example/g00093/impl"
)

// segNames: two variables and two lengths; the arrays here are those of a, so
// that there are segSize symbols, of which segLen is the length.
func segNames() []string { return []string{"i", "j", "len(a)", "len(b)"} }

const (
	segSize = 5
	segLen  = 3
)

// seg reads a Seg from its text, also one that is not ok but has the form of
// one: {terms}, what is between, {terms} and so on.
func seg(t *testing.T, text string) impl.Seg {
	t.Helper()
	var s impl.Seg
	for at, piece := range strings.Split(text, "{")[1:] {
		terms, behind, isBound := strings.Cut(piece, "}")
		if !isBound || at > 0 && len(s.Vals) != at {
			t.Fatalf("%q is no row", text)
		}
		s.Bounds = append(s.Bounds, termList(t, terms))
		if behind = strings.TrimSpace(behind); behind == "" {
			continue
		}
		said, isMaybe := strings.CutSuffix(behind, " ?")
		v, ok := impl.ValRead(said)
		if !ok {
			t.Fatalf("%q is no row", text)
		}
		s.Vals, s.Maybe = append(s.Vals, v), append(s.Maybe, isMaybe)
	}
	return s
}

// termList: terms with a comma and a blank between.
func termList(t *testing.T, text string) []impl.Sym {
	t.Helper()
	var list []impl.Sym
	for _, one := range strings.Split(text, ", ") {
		if one == "" {
			continue
		}
		s, ok := impl.SymRead(one, segNames())
		if !ok {
			t.Fatalf("%q is no term", one)
		}
		list = append(list, s)
	}
	return list
}

func sameSeg(a, b impl.Seg) bool {
	return slices.EqualFunc(a.Bounds, b.Bounds, slices.Equal[[]impl.Sym]) && slices.Equal(a.Vals, b.Vals) && slices.Equal(a.Maybe, b.Maybe)
}

func copySeg(s impl.Seg) impl.Seg {
	c := impl.Seg{Vals: slices.Clone(s.Vals), Maybe: slices.Clone(s.Maybe)}
	for _, bound := range s.Bounds {
		c.Bounds = append(c.Bounds, slices.Clone(bound))
	}
	return c
}

// changed: a copy of a Seg to which something was done.
func changed(s impl.Seg, change func(s *impl.Seg)) impl.Seg {
	s = copySeg(s)
	change(&s)
	return s
}

func isNoSeg(s impl.Seg) bool { return sameSeg(s, impl.Seg{}) }

func wantSegOk(t *testing.T, size, l int, s impl.Seg, want bool) {
	t.Helper()
	if got := impl.SegOk(size, l, s); got != want {
		t.Fatalf("%d symbols, length %d: %v: %v", size, l, s, got)
	}
}

func wantSeg(t *testing.T, got, want impl.Seg, about ...any) {
	t.Helper()
	if !sameSeg(got, want) {
		t.Fatalf("%v: %v, want %v", about, got, want)
	}
}

// wantNoUse: of a Seg that is not ok, or of a size and a length that are not,
// nothing is told.
func wantNoUse(t *testing.T, size, l int, s impl.Seg) {
	t.Helper()
	wantSegOk(t, size, l, s, false)
	for _, terms := range [][]impl.Sym{nil, {sym(0, 1)}, {sym(0, 0), sym(1, 0), sym(3, 0)}} {
		if got := impl.SegDrop(size, l, s, terms); !isNoSeg(got) {
			t.Fatalf("%d, %d: %v without %v is %v", size, l, s, terms, got)
		}
	}
	for count := range 14 {
		if text := impl.SegText(size, l, s, lettersUpTo(count)); text != "" {
			t.Fatalf("%d, %d: %v is written as %q", size, l, s, text)
		}
		for cells := range 4 {
			vals := make([]int, count)
			if l > 0 && l < count {
				vals[l] = cells
			}
			for _, c := range cellsOver([]int{0, 1}) {
				if impl.SegHas(size, l, s, vals, slices.Repeat([]impl.Cell{c}, cells)) {
					t.Fatalf("%d, %d: %v has %v", size, l, s, vals)
				}
			}
		}
	}
}

// isSegByPairs: whether a Seg is ok, asked term by term and pair by pair.
func isSegByPairs(size, l int, s impl.Seg) bool {
	type placed struct {
		bound int
		term  impl.Sym
	}
	var all []placed
	if size < 2 || size > 13 || l < 1 || l >= size || len(s.Bounds) < 1 || len(s.Bounds) > 16 || len(s.Vals)+1 != len(s.Bounds) || len(s.Maybe)+1 != len(s.Bounds) {
		return false
	}
	for at, bound := range s.Bounds {
		if len(bound) == 0 {
			return false
		}
		for _, term := range bound {
			if term.V < 0 || term.V >= size || term.C < -1000 || term.C > 1000 {
				return false
			}
			all = append(all, placed{at, term})
		}
	}
	begins, ends := false, false
	for i, one := range all {
		begins = begins || one == placed{0, sym(0, 0)}
		ends = ends || one == placed{len(s.Bounds) - 1, sym(l, 0)}
		for _, other := range all[i+1:] {
			if one.term == other.term || one.bound == other.bound && (one.term.V > other.term.V || one.term.V == other.term.V && one.term.C > other.term.C) {
				return false
			}
		}
	}
	for _, v := range s.Vals {
		if !impl.ValOk(v) {
			return false
		}
	}
	return begins && ends && len(all) <= 40
}

// isSoByCells: whether a Seg that is ok is so of a state, asked cell by cell.
func isSoByCells(size, l int, s impl.Seg, vals []int, cells []impl.Cell) bool {
	if len(vals) != size || vals[0] != 0 || slices.Min(vals) < -bound || slices.Max(vals) > bound || vals[l] != len(cells) {
		return false
	}
	var numbers []int
	for _, terms := range s.Bounds {
		for _, one := range terms {
			if vals[one.V]+one.C != vals[terms[0].V]+terms[0].C {
				return false
			}
		}
		numbers = append(numbers, vals[terms[0].V]+terms[0].C)
	}
	for at, v := range s.Vals {
		from, to := numbers[at], numbers[at+1]
		if to < from || to == from && !s.Maybe[at] {
			return false
		}
		for place, cell := range cells {
			if from <= place && place < to && !isSaid(v, cell) {
				return false
			}
		}
	}
	return true
}

// dropByPlaces: a Seg that is ok without terms, told from what stays: between
// two bounds that stay all that stood there comes together.
func dropByPlaces(l int, s impl.Seg, terms []impl.Sym) impl.Seg {
	var left impl.Seg
	said, maybe := noCell(), true
	for at, bound := range s.Bounds {
		var stay []impl.Sym
		for _, one := range bound {
			if one == sym(0, 0) || one == sym(l, 0) || !slices.Contains(terms, one) {
				stay = append(stay, one)
			}
		}
		if len(stay) > 0 {
			if at > 0 {
				left.Vals, left.Maybe = append(left.Vals, said), append(left.Maybe, maybe)
			}
			left.Bounds = append(left.Bounds, stay)
			said, maybe = noCell(), true
		}
		if at < len(s.Vals) {
			said, maybe = impl.ValJoin(said, s.Vals[at]), maybe && s.Maybe[at]
		}
	}
	return left
}

// wantDrop: what SegDrop tells of a Seg that is ok.
func wantDrop(t *testing.T, size, l int, s impl.Seg, terms []impl.Sym) impl.Seg {
	t.Helper()
	before, asked := copySeg(s), slices.Clone(terms)
	got := impl.SegDrop(size, l, s, terms)
	wantSeg(t, got, dropByPlaces(l, s, terms), "drop", s, terms)
	wantSegOk(t, size, l, got, true)
	if !sameSeg(s, before) || !slices.Equal(terms, asked) {
		t.Fatalf("%v and %v have become %v and %v", before, asked, s, terms)
	}
	return got
}

// allTerms: all terms of a Seg, in the order in which they stand.
func allTerms(s impl.Seg) []impl.Sym { return slices.Concat(s.Bounds...) }

// plainRow: so many bounds, each of so many numbers, the last one the length.
func plainRow(bounds, terms int) impl.Seg {
	var s impl.Seg
	for at := range bounds {
		var list []impl.Sym
		for num := range terms {
			list = append(list, sym(0, at*terms+num))
		}
		if at > 0 {
			s.Vals, s.Maybe = append(s.Vals, sure(span(at, at))), append(s.Maybe, at%2 == 0)
		}
		s.Bounds = append(s.Bounds, list)
	}
	last := s.Bounds[bounds-1]
	last[terms-1] = sym(segLen, 0)
	if bounds == 1 && terms == 1 {
		s.Bounds[0] = []impl.Sym{sym(0, 0), sym(segLen, 0)}
	}
	return s
}

// okRows: some Segs of the five symbols that are ok.
func okRows(t *testing.T) []impl.Seg {
	var list []impl.Seg
	for _, text := range []string{
		"{0, len(a)}", "{0, i - 3, i + 1, len(a), len(b)}", "{0} 0..0 {len(a)}", "{0} none ? {len(a)}", "{0} none {len(a)}", "{0} none or unwritten ? {len(a)}", "{0} -1000000..1000000 or unwritten ? {len(a)}",
		"{-1000, 0, 1000, i - 1000, i + 1000} 1..2 {len(a), len(b) - 1000, len(b) + 1000}", "{0} 1..1 {i} 2..2 ? {len(a)}", "{0, i} 1..1 ? {i + 1} 2..2 or unwritten {j} none or unwritten ? {len(a)}",
		"{0, i} 0..5 {1, i + 1, j} 7..9 ? {2} 1..1 {len(a), len(b)}", "{0, len(b)} 0..5 {7} 7..9 ? {3} 1..1 {-5} none {i, j, len(a)}",
	} {
		list = append(list, seg(t, text))
	}
	return append(list, plainRow(16, 1), plainRow(16, 2), plainRow(1, 40), plainRow(2, 20), plainRow(8, 5), plainRow(3, 13))
}

func TestSegConstants(t *testing.T) {
	if impl.MaxBounds != 16 || impl.MaxTerms != 40 {
		t.Fatal(impl.MaxBounds, impl.MaxTerms)
	}
}

func TestSegOk(t *testing.T) {
	for _, s := range okRows(t) {
		wantSegOk(t, segSize, segLen, s, true)
		if !isSegByPairs(segSize, segLen, s) {
			t.Fatal(s)
		}
		for _, l := range append(manyInts(), 4, 5) {
			wantSegOk(t, segSize, l, s, isSegByPairs(segSize, l, s))
		}
		for _, size := range append(manyInts(), 3, 4, 6) {
			wantSegOk(t, size, segLen, s, isSegByPairs(size, segLen, s))
		}
	}
}

// Size and length at either end and one past each, with Segs that are else ok.
func TestSizesOfSegs(t *testing.T) {
	sizes := append(manyInts(), 3, 4, 5, 6, 7, 8, 9, 10)
	for _, size := range sizes {
		for _, l := range append(sizes, size-1, size, size+1) {
			want := size >= 2 && size <= 13 && l >= 1 && l < size
			two := impl.Seg{Bounds: [][]impl.Sym{{sym(0, 0)}, {sym(l, 0)}}, Vals: []impl.Val{{}}, Maybe: []bool{true}}
			one := impl.Seg{Bounds: [][]impl.Sym{{sym(0, 0), sym(l, 0)}}}
			wantSegOk(t, size, l, two, want)
			wantSegOk(t, size, l, one, want)
			if !want {
				wantNoUse(t, size, l, two)
				wantNoUse(t, size, l, one)
			}
		}
	}
	for _, one := range []struct {
		size, l int
		want    bool
	}{{2, 1, true}, {1, 1, false}, {1, 0, false}, {2, 0, false}, {2, 2, false}, {2, -1, false}, {13, 1, true}, {13, 12, true}, {13, 13, false}, {13, 0, false}, {14, 12, false}, {14, 13, false}, {14, 1, false}, {0, 0, false}, {-2, 1, false}} {
		wantSegOk(t, one.size, one.l, impl.Seg{Bounds: [][]impl.Sym{{{}}, {{V: one.l}}}, Vals: []impl.Val{sure(span(0, 5))}, Maybe: []bool{false}}, one.want)
	}
}

func TestCountsOfBounds(t *testing.T) {
	wantNoUse(t, segSize, segLen, impl.Seg{})
	wantNoUse(t, segSize, segLen, impl.Seg{Bounds: [][]impl.Sym{}, Vals: []impl.Val{}, Maybe: []bool{}})
	wantNoUse(t, segSize, segLen, impl.Seg{Vals: []impl.Val{{}}, Maybe: []bool{true}})
	for count := 1; count <= 20; count++ {
		wantSegOk(t, segSize, segLen, plainRow(count, 1), count <= 16)
	}
	wantNoUse(t, segSize, segLen, plainRow(17, 1))
	wantNoUse(t, segSize, segLen, plainRow(900, 1))
	wantSegOk(t, segSize, segLen, impl.Seg{Bounds: [][]impl.Sym{{sym(0, 0), sym(segLen, 0)}}, Vals: []impl.Val{}, Maybe: []bool{}}, true)
	// Sixteen bounds that are all there is room for, and a seventeenth behind.
	s := plainRow(17, 1)
	s.Bounds, s.Vals, s.Maybe = s.Bounds[:16], s.Vals[:15], s.Maybe[:15]
	wantSegOk(t, segSize, segLen, s, false)
	s.Bounds[15] = append(s.Bounds[15], sym(segLen, 0))
	wantSegOk(t, segSize, segLen, s, true)
}

func TestCountsOfTerms(t *testing.T) {
	for bounds := 1; bounds <= 16; bounds++ {
		for at := range bounds {
			// All other bounds have one term, this one the rest of them.
			for _, count := range []int{39, 40, 41, 42} {
				s := changed(plainRow(bounds, 1), func(s *impl.Seg) {
					list := s.Bounds[at]
					for num := 0; len(allTerms(*s)) < count; num++ {
						list = append(list, sym(4, num-7))
						slices.SortFunc(list, func(a, b impl.Sym) int { return 10000*(a.V-b.V) + a.C - b.C })
						s.Bounds[at] = list
					}
				})
				wantSegOk(t, segSize, segLen, s, count <= 40)
				if count == 41 {
					wantNoUse(t, segSize, segLen, s)
				}
			}
		}
	}
	for _, one := range []struct {
		bounds, terms int
		want          bool
	}{{1, 40, true}, {1, 41, false}, {2, 20, true}, {2, 21, false}, {4, 10, true}, {8, 5, true}, {8, 6, false}, {13, 3, true}, {14, 3, false}, {16, 2, true}, {16, 3, false}, {3, 13, true}, {3, 14, false}} {
		wantSegOk(t, segSize, segLen, plainRow(one.bounds, one.terms), one.want)
	}
}

func TestEmptyBounds(t *testing.T) {
	for _, empty := range [][]impl.Sym{nil, {}, make([]impl.Sym, 0, 3)} {
		wantNoUse(t, segSize, segLen, impl.Seg{Bounds: [][]impl.Sym{empty}})
		for count := 2; count <= 16; count++ {
			for at := range count {
				wantNoUse(t, segSize, segLen, changed(plainRow(count, 1), func(s *impl.Seg) { s.Bounds[at] = empty }))
				if count < 16 {
					wantNoUse(t, segSize, segLen, changed(plainRow(count, 1), func(s *impl.Seg) {
						s.Bounds = slices.Insert(s.Bounds, at+1, empty)
						s.Vals, s.Maybe = append(s.Vals, impl.Val{}), append(s.Maybe, true)
					}))
				}
			}
		}
	}
}

func TestWrongOrderOfTerms(t *testing.T) {
	for _, text := range []string{
		// They do not ascend.
		"{1, 0} 1..1 {len(a)}", "{i, 0} 1..1 {len(a)}", "{0, i, 1} 1..1 {len(a)}", "{0, i + 1, i} 1..1 {len(a)}", "{0, i, i - 1} 1..1 {len(a)}", "{len(a), 0}", "{0, len(b), len(a)}",
		"{0} 1..1 {1, -1} 1..1 {len(a)}", "{0} 1..1 {j, i} 1..1 {len(a)}", "{0} 1..1 {i, j, 2} 1..1 {len(a)}", "{0} 1..1 {len(b), len(a)}", "{0} 1..1 {len(a), len(a) - 1}", "{0} 1..1 {len(a), j}", "{0} 1..1 {len(a), 5}",
		// They stand twice in one bound.
		"{0, 0} 1..1 {len(a)}", "{0, 1, 1} 1..1 {len(a)}", "{0} 1..1 {len(a), len(a)}", "{0, 0, len(a)}", "{0, len(a), len(a)}", "{0} 1..1 {i, i} 1..1 {len(a)}", "{0} 1..1 {i, i + 1, i + 1} 1..1 {len(a)}", "{0} 1..1 {i, j, i} 1..1 {len(a)}",
		// They stand in two bounds.
		"{0} 1..1 {0} 1..1 {len(a)}", "{0} 1..1 {0, len(a)}", "{0, len(a)} 1..1 {len(a)}", "{0} 1..1 {len(a)} 1..1 {len(a)}", "{0, i} 1..1 {i} 1..1 {len(a)}", "{0, i} 1..1 {1} 1..1 {i, len(a)}",
		"{0, i + 1} 1..1 {i, i + 1} 1..1 {len(a)}", "{0} 1..1 {i} 1..1 {j} 1..1 {i} 1..1 {len(a)}", "{0} 1..1 {1, i} 1..1 {2, i} 1..1 {len(a)}", "{0} 1..1 {j} 1..1 {j, len(a)}",
		"{0} 1..1 {len(b)} 1..1 {len(a), len(b)}", "{0} 1..1 {len(b) - 1} 1..1 {len(a), len(b) - 1}", "{0, len(b) - 1} 1..1 {1} 1..1 {2} 1..1 {3} 1..1 {len(a), len(b) - 1}",
	} {
		wantNoUse(t, segSize, segLen, seg(t, text))
	}
	for _, text := range []string{"{-1, 0, 1} 1..1 {len(a)}", "{0, i - 1, i, i + 1} 1..1 {len(a)}", "{-1, 0, i} 1..1 {1, i - 1} 1..1 {i + 1} 1..1 {j, len(a) - 1, len(a), len(a) + 1, len(b)}", "{0, len(a) - 1} 1..1 {len(a)}"} {
		wantSegOk(t, segSize, segLen, seg(t, text), true)
	}
	// Of each two terms of a Seg the one is put in the other's place.
	for _, s := range okRows(t) {
		for i, from := range s.Bounds {
			for j, to := range s.Bounds {
				for k := range from {
					for m := range to {
						twice := changed(s, func(s *impl.Seg) { s.Bounds[j][m] = s.Bounds[i][k] })
						wantSegOk(t, segSize, segLen, twice, i == j && k == m)
						about := changed(s, func(s *impl.Seg) {
							s.Bounds[j][m], s.Bounds[i][k] = s.Bounds[i][k], s.Bounds[j][m]
						})
						wantSegOk(t, segSize, segLen, about, isSegByPairs(segSize, segLen, about))
					}
				}
			}
		}
	}
}

func TestTermsThatAreNone(t *testing.T) {
	for _, one := range []struct {
		term impl.Sym
		want bool
	}{
		{sym(1, 1000), true}, {sym(1, 1001), false}, {sym(1, -1000), true}, {sym(1, -1001), false}, {sym(0, 1000), true}, {sym(0, 1001), false}, {sym(0, -1000), true}, {sym(0, -1001), false}, {sym(4, 0), true}, {sym(5, 0), false},
		{sym(-1, 0), false}, {sym(3, 1000), true}, {sym(3, 1001), false}, {sym(4, -1000), true}, {sym(4, -1001), false}, {sym(2, bound), false}, {sym(2, -gap), false}, {sym(math.MaxInt, 0), false}, {sym(math.MinInt, 0), false},
		{sym(1, math.MaxInt), false}, {sym(1, math.MinInt), false}, {sym(12, 1), false}, {sym(13, 1), false}, {sym(math.MinInt, math.MinInt), false}, {sym(math.MaxInt, math.MaxInt), false},
	} {
		for _, text := range []string{"{0} 1..1 ? {len(a)}", "{0} 1..1 {2} 2..2 ? {len(a)}", "{0, len(a)}"} {
			s := seg(t, text)
			for at := range s.Bounds {
				more := changed(s, func(s *impl.Seg) {
					place, _ := slices.BinarySearchFunc(s.Bounds[at], one.term, func(a, b impl.Sym) int {
						if impl.SymLess(a, b) {
							return -1
						}
						return 1
					})
					s.Bounds[at] = slices.Insert(s.Bounds[at], place, one.term)
				})
				wantSegOk(t, segSize, segLen, more, one.want)
				if !one.want {
					wantNoUse(t, segSize, segLen, more)
				}
			}
			alone := changed(s, func(s *impl.Seg) {
				s.Bounds = slices.Insert(s.Bounds, 1, []impl.Sym{one.term})
				s.Vals, s.Maybe = append(s.Vals, noCell()), append(s.Maybe, false)
			})
			if text != "{0, len(a)}" {
				wantSegOk(t, segSize, segLen, alone, one.want)
			}
		}
	}
}

func TestEndsOfSegs(t *testing.T) {
	for text, want := range map[string]bool{
		"{0} 1..1 {len(a)}": true, "{0, len(a)}": true, "{0, 1} 1..1 {len(a)}": true, "{-1, 0, i} 1..1 {j, len(a)}": true, "{0} 1..1 {0, len(a)}": false,
		// Sym{0, 0} does not stand in the first.
		"{1} 1..1 {len(a)}": false, "{i} 1..1 {len(a)}": false, "{len(a)}": false, "{i, len(a)}": false, "{1} 1..1 {0, len(a)}": false, "{i} 1..1 {0} 1..1 {len(a)}": false, "{-1} 1..1 {len(a)}": false, "{len(b)} 1..1 {0, len(a)}": false,
		// Sym{l, 0} does not stand in the last.
		"{0} 1..1 {1}": false, "{0}": false, "{0, i}": false, "{0} 1..1 {len(b)}": false, "{0, len(a)} 1..1 {1}": false, "{0, len(a)} 1..1 {len(b)}": false, "{0} 1..1 {len(a)} 1..1 {i}": false, "{0} 1..1 {len(a) + 1}": false, "{0} 1..1 {len(a) - 1}": false, "{0} 1..1 {j}": false,
		// Neither, or the two changed about.
		"{1} 1..1 {2}": false, "{len(a)} 1..1 {0}": false, "{len(a)} 1..1 {i} 1..1 {0}": false, "{i}": false, "{i} 1..1 {j}": false, "{1} 1..1 {0, len(a)} 1..1 {2}": false,
	} {
		wantSegOk(t, segSize, segLen, seg(t, text), want)
		if !want {
			wantNoUse(t, segSize, segLen, seg(t, text))
		}
	}
	wantSegOk(t, segSize, 4, seg(t, "{0} 1..1 {len(b)}"), true)
	wantSegOk(t, segSize, 4, seg(t, "{0} 1..1 {len(a)}"), false)
	wantSegOk(t, segSize, 1, seg(t, "{0} 1..1 {i}"), true)
}

func TestCountsOfVals(t *testing.T) {
	for _, s := range okRows(t) {
		for _, by := range []int{-16, -2, -1, 1, 2, 900} {
			many := func(list int) int { return max(list+by, 0) }
			vals := changed(s, func(s *impl.Seg) { s.Vals = make([]impl.Val, many(len(s.Vals))) })
			maybe := changed(s, func(s *impl.Seg) { s.Maybe = make([]bool, many(len(s.Maybe))) })
			both := changed(s, func(s *impl.Seg) {
				s.Vals, s.Maybe = make([]impl.Val, many(len(s.Vals))), make([]bool, many(len(s.Maybe)))
			})
			for _, wrong := range []impl.Seg{vals, maybe, both} {
				isWrong := len(wrong.Vals) != len(s.Bounds)-1 || len(wrong.Maybe) != len(s.Bounds)-1
				wantSegOk(t, segSize, segLen, wrong, !isWrong)
				if isWrong {
					wantNoUse(t, segSize, segLen, wrong)
				}
			}
		}
	}
}

func TestWrongValsInSegs(t *testing.T) {
	for _, s := range okRows(t) {
		for at := range s.Vals {
			for _, v := range valsOver(farEnds()) {
				wantSegOk(t, segSize, segLen, changed(s, func(s *impl.Seg) { s.Vals[at] = v }), true)
			}
			for _, v := range wrongVals() {
				wantSegOk(t, segSize, segLen, changed(s, func(s *impl.Seg) { s.Vals[at] = v }), false)
			}
			wantNoUse(t, segSize, segLen, changed(s, func(s *impl.Seg) { s.Vals[at] = sure(span(2, 0)) }))
			wantNoUse(t, segSize, segLen, changed(s, func(s *impl.Seg) { s.Vals[at] = unsure(span(0, bound+1)) }))
		}
	}
}

// Lists of any length are refused, and soon.
func TestLongLists(t *testing.T) {
	long := make([]impl.Sym, 1000000)
	for at := range long {
		long[at] = sym(0, at)
	}
	s := plainRow(3, 1)
	for _, wrong := range []impl.Seg{
		changed(s, func(s *impl.Seg) { s.Bounds[0] = long }),
		changed(s, func(s *impl.Seg) { s.Bounds[1] = long }),
		changed(s, func(s *impl.Seg) { s.Bounds[2] = long }),
		changed(s, func(s *impl.Seg) { s.Bounds = make([][]impl.Sym, 1000000) }),
		changed(s, func(s *impl.Seg) { s.Bounds = slices.Repeat([][]impl.Sym{long}, 1000) }),
		changed(s, func(s *impl.Seg) { s.Vals = make([]impl.Val, 1000000) }),
		changed(s, func(s *impl.Seg) { s.Maybe = make([]bool, 1000000) }),
	} {
		wantNoUse(t, segSize, segLen, wrong)
	}
	if got := impl.SegDrop(segSize, segLen, s, long); !isNoSeg(got) {
		t.Fatal(got)
	}
	if impl.SegText(segSize, segLen, s, make([]string, 1000000)) != "" || impl.SegHas(segSize, segLen, s, make([]int, 1000000), nil) || impl.SegHas(segSize, segLen, s, make([]int, segSize), make([]impl.Cell, 1000000)) {
		t.Fatal("long")
	}
	whole := impl.SegTop(2, 1, unsure(span(0, 0)))
	cells := make([]impl.Cell, bound+1)
	if !impl.SegHas(2, 1, whole, []int{0, bound}, cells[:bound]) || impl.SegHas(2, 1, whole, []int{0, bound + 1}, cells) {
		t.Fatal("as many cells as there can be, and one more")
	}
	cells[bound-1] = written(1)
	if impl.SegHas(2, 1, whole, []int{0, bound}, cells[:bound]) {
		t.Fatal("the last of many cells")
	}
}

func TestSegTop(t *testing.T) {
	sizes := append(manyInts(), 3, 4, 5, 6, 7, 8, 9, 10)
	for _, size := range sizes {
		for _, l := range append(sizes, size-1, size, size+1) {
			for _, v := range append(bothWays([]impl.Range{noRange(), span(0, 0), span(-bound, bound)}), sure(span(2, 0)), unsure(span(0, bound+1))) {
				want := impl.Seg{}
				if size >= 2 && size <= 13 && l >= 1 && l < size && impl.ValOk(v) {
					want = impl.Seg{Bounds: [][]impl.Sym{{sym(0, 0)}, {sym(l, 0)}}, Vals: []impl.Val{v}, Maybe: []bool{true}}
				}
				got := impl.SegTop(size, l, v)
				wantSeg(t, got, want, size, l, v)
				wantSegOk(t, size, l, got, !isNoSeg(want))
			}
		}
	}
	for _, v := range append(valsOver(farEnds()), valsOver(run(-3, 3))...) {
		want := "{0} " + impl.ValText(v) + " ? {len(a)}"
		if got := impl.SegText(segSize, segLen, impl.SegTop(segSize, segLen, v), segNames()); got != want {
			t.Fatalf("%q, want %q", got, want)
		}
	}
	for _, v := range wrongVals() {
		if got := impl.SegTop(segSize, segLen, v); !isNoSeg(got) {
			t.Fatal(v, got)
		}
	}
	wantSeg(t, impl.SegTop(2, 1, noCell()), impl.Seg{Bounds: [][]impl.Sym{{{}}, {{V: 1}}}, Vals: []impl.Val{noCell()}, Maybe: []bool{true}})
}

// What is so of all cells is so of just the arrays whose cells have it.
func TestSegTopHas(t *testing.T) {
	nums := []int{-1, 0, 1}
	for _, v := range valsOver(nums) {
		top := impl.SegTop(segSize, segLen, v)
		for _, list := range cellRows(cellsOver(nums), 3) {
			vals := []int{0, 7, -bound, len(list), bound}
			if got := impl.SegHas(segSize, segLen, top, vals, list); got != hasAll(v, list) {
				t.Fatalf("%v has %v: %v", top, list, got)
			}
		}
	}
}

// cellRows: all rows of at most so many of these cells.
func cellRows(list []impl.Cell, most int) [][]impl.Cell {
	rows := [][]impl.Cell{nil}
	for begin := 0; most > 0; most-- {
		end := len(rows)
		for _, row := range rows[begin:end] {
			for _, c := range list {
				rows = append(rows, append(slices.Clone(row), c))
			}
		}
		begin = end
	}
	return rows
}

// wantHasRow: whether a row, told as its text, has a state: i, j, the cells of
// a, and as many cells of b as there are of a, less 1.
func wantHasRow(t *testing.T, text string, i, j int, list string, want bool) {
	t.Helper()
	s, row := seg(t, text), cells(list)
	vals := []int{0, i, j, len(row), len(row) - 1}
	if got := impl.SegHas(segSize, segLen, s, vals, row); got != want || isSoByCells(segSize, segLen, s, vals, row) != want {
		t.Fatalf("%s has %v %v: %v", text, vals, row, got)
	}
}

func TestSegHas(t *testing.T) {
	for _, one := range []struct {
		text string
		i, j int
		list string
		want bool
	}{
		// Bounds that rise, are the same, and fall, with Maybe and without.
		{"{0} 1..1 {i} 2..2 {len(a)}", 1, 0, "1 2", true},
		{"{0} 1..1 {i} 2..2 {len(a)}", 2, 0, "1 1 2 2 2", true},
		{"{0} 1..1 {i} 2..2 {len(a)}", 0, 0, "2 2", false},
		{"{0} 1..1 {i} 2..2 {len(a)}", 2, 0, "1 1", false},
		{"{0} 1..1 {i} 2..2 {len(a)}", 0, 0, "", false},
		{"{0} 1..1 ? {i} 2..2 {len(a)}", 0, 0, "2 2", true},
		{"{0} 1..1 ? {i} 2..2 {len(a)}", 2, 0, "1 1", false},
		{"{0} 1..1 {i} 2..2 ? {len(a)}", 2, 0, "1 1", true},
		{"{0} 1..1 {i} 2..2 ? {len(a)}", 0, 0, "2 2", false},
		{"{0} 1..1 ? {i} 2..2 ? {len(a)}", 0, 0, "2 2", true},
		{"{0} 1..1 ? {i} 2..2 ? {len(a)}", 2, 0, "1 1", true},
		{"{0} 1..1 ? {i} 2..2 ? {len(a)}", 0, 0, "", true},
		{"{0} 1..1 ? {i} 2..2 ? {len(a)}", -1, 0, "2 2", false},
		{"{0} 1..1 ? {i} 2..2 ? {len(a)}", 3, 0, "1 1", false},
		{"{0} 1..1 ? {i} 2..2 ? {len(a)}", 1, 0, "", false},
		{"{0} 1..1 ? {i} 2..2 ? {len(a)}", bound, 0, "1 1", false},
		{"{0} 1..1 ? {i} 2..2 ? {len(a)}", -bound, 0, "2 2", false},
		{"{0} 1..1 ? {i} 2..2 ? {j} 3..3 ? {len(a)}", 1, 2, "1 2 3", true},
		{"{0} 1..1 ? {i} 2..2 ? {j} 3..3 ? {len(a)}", 2, 1, "1 2 3", false},
		{"{0} 1..1 ? {i} 1..1 ? {j} 1..1 ? {len(a)}", 2, 1, "1 1 1", false},
		{"{0} 1..1 ? {i} 1..1 ? {j} 1..1 ? {len(a)}", 5, 2, "1 1 1", false},
		{"{0} 1..1 ? {i} 1..1 ? {j} 1..1 ? {len(a)}", 2, 5, "1 1 1", false},
		{"{0} 1..1 ? {i} 1..1 ? {j} 1..1 ? {len(a)}", 2, -1, "1 1 1", false},
		{"{0} 1..1 ? {i} 1..1 ? {j} 1..1 ? {len(a)}", -1, 2, "1 1 1", false},
		{"{0} 1..1 ? {i} 1..1 ? {j} 1..1 ? {len(a)}", 2, 2, "1 1 1", true},
		{"{0} 1..1 ? {i} 1..1 {j} 1..1 ? {len(a)}", 2, 2, "1 1 1", false},
		{"{0} 1..1 ? {1} 2..2 ? {len(a)}", 0, 0, "", false},
		{"{0} 1..1 ? {1} 2..2 ? {len(a)}", 0, 0, "1", true},
		{"{0} 1..1 ? {-1} 2..2 ? {len(a)}", 0, 0, "2", false},
		{"{0} 1..1 ? {len(b)} 2..2 ? {len(a)}", 0, 0, "1 2", true},
		{"{0} 1..1 ? {len(b)} 2..2 ? {len(a)}", 0, 0, "", false},
		// Syms of one bound that are two numbers.
		{"{0, i} 1..1 {len(a)}", 0, 0, "1", true},
		{"{0, i} 1..1 {len(a)}", 1, 0, "1", false},
		{"{0, i + 1} 1..1 {len(a)}", -1, 0, "1", true},
		{"{0, i + 1} 1..1 {len(a)}", 0, 0, "1", false},
		{"{0, 1} 1..1 {len(a)}", 0, 0, "1", false},
		{"{-1, 0} 1..1 {len(a)}", 0, 0, "1", false},
		{"{0} 1..1 {j, len(a)}", 0, 1, "1", true},
		{"{0} 1..1 {j, len(a)}", 0, 0, "1", false},
		{"{0} 1..1 {j, len(a)}", 0, 2, "1", false},
		{"{0} 1..1 {len(a), len(b)}", 0, 0, "1", false},
		{"{0} 1..1 {len(a), len(b) + 1}", 0, 0, "1", true},
		{"{0} 1..1 {3, len(a)}", 0, 0, "1 1 1", true},
		{"{0} 1..1 {3, len(a)}", 0, 0, "1 1", false},
		{"{0} 1..1 {i, j} 2..2 {len(a)}", 1, 1, "1 2", true},
		{"{0} 1..1 {i, j} 2..2 {len(a)}", 1, 2, "1 2", false},
		{"{0} 1..1 {i, j} 2..2 {len(a)}", 2, 1, "1 2 2", false},
		{"{0} 1..1 {i, j - 1} 2..2 {len(a)}", 1, 2, "1 2", true},
		{"{0} 1..1 {1, i, j} 2..2 {len(a)}", 1, 1, "1 2", true},
		{"{0} 1..1 {1, i, j} 2..2 {len(a)}", 1, 0, "1 2", false},
		{"{0} 1..1 {1, i, j} 2..2 {len(a)}", 0, 1, "1 2", false},
		// A cell of which its Val is not so: first, in the midst and last.
		{"{0} 1..2 {i} 3..4 {len(a)}", 3, 0, "1 2 1 3 4 3", true},
		{"{0} 1..2 {i} 3..4 {len(a)}", 3, 0, "3 2 1 3 4 3", false},
		{"{0} 1..2 {i} 3..4 {len(a)}", 3, 0, "1 3 1 3 4 3", false},
		{"{0} 1..2 {i} 3..4 {len(a)}", 3, 0, "1 2 3 3 4 3", false},
		{"{0} 1..2 {i} 3..4 {len(a)}", 3, 0, "1 2 1 2 4 3", false},
		{"{0} 1..2 {i} 3..4 {len(a)}", 3, 0, "1 2 1 3 2 3", false},
		{"{0} 1..2 {i} 3..4 {len(a)}", 3, 0, "1 2 1 3 4 2", false},
		{"{0} 1..2 {i} 3..4 {len(a)}", 3, 0, "1 2 . 3 4 3", false},
		{"{0} 1..2 {i} 3..4 {len(a)}", 3, 0, "1 2 1 . 4 3", false},
		{"{0} 1..2 or unwritten {i} 3..4 {len(a)}", 3, 0, ". 2 . 3 4 3", true},
		{"{0} 1..2 or unwritten {i} 3..4 {len(a)}", 3, 0, ". 2 . 3 . 3", false},
		{"{0} none {i} 3..4 {len(a)}", 1, 0, "1 3", false},
		{"{0} none {i} 3..4 {len(a)}", 0, 0, "3", false},
		{"{0} none ? {i} 3..4 {len(a)}", 0, 0, "3", true},
		{"{0} none ? {i} 3..4 {len(a)}", 1, 0, "3 3", false},
		{"{0} none ? {i} 3..4 {len(a)}", 1, 0, ". 3", false},
		{"{0} none or unwritten ? {i} 3..4 {len(a)}", 1, 0, ". 3", true},
		// An array of no cells; one bound alone.
		{"{0} 1..1 ? {len(a)}", 0, 0, "", true},
		{"{0} 1..1 {len(a)}", 0, 0, "", false},
		{"{0, len(a)}", 0, 0, "", true},
		{"{0, len(a)}", 0, 0, ".", false},
		{"{0, len(a)}", 5, -5, "1 2", false},
		{"{0, i, len(a)}", 0, 0, "", true},
		{"{0, i, len(a)}", 1, 0, "", false},
		{"{0, i, len(a)}", 1, 0, "1", false},
		{"{0, len(a), len(b)}", 0, 0, "", false},
		{"{0, len(a), len(b) + 1}", 0, 0, "", true},
	} {
		wantHasRow(t, one.text, one.i, one.j, one.list, one.want)
	}
}

func TestWrongStates(t *testing.T) {
	s := seg(t, "{0} 1..1 {i} 0..2 ? {len(a)}")
	row := cells("1 2 0")
	for i, one := range []struct {
		vals  []int
		cells []impl.Cell
		want  bool
	}{
		{[]int{0, 1, 9, 3, 0}, row, true},
		{[]int{0, 1, bound, 3, -bound}, row, true},
		{[]int{0, 1, -bound, 3, bound}, row, true},
		{[]int{0, 3, 0, 3, 0}, row, false},
		// Too many, too few.
		{nil, nil, false},
		{nil, row, false},
		{[]int{0}, row, false},
		{[]int{0, 1, 9, 3}, row, false},
		{[]int{0, 1, 9, 3, 0, 0}, row, false},
		{make([]int, 13), nil, false},
		{make([]int, 900), nil, false},
		// The first one is not 0.
		{[]int{1, 1, 9, 3, 0}, row, false},
		{[]int{-1, 1, 9, 3, 0}, row, false},
		{[]int{math.MaxInt, 1, 9, 3, 0}, row, false},
		// Past the bounds.
		{[]int{0, 1, bound + 1, 3, 0}, row, false},
		{[]int{0, 1, -bound - 1, 3, 0}, row, false},
		{[]int{0, 1, 0, 3, bound + 1}, row, false},
		{[]int{0, 1, 0, 3, -bound - 1}, row, false},
		{[]int{0, 1, 0, 3, math.MinInt}, row, false},
		{[]int{0, 1, math.MaxInt, 3, 0}, row, false},
		{[]int{0, math.MaxInt, 0, 3, 0}, row, false},
		{[]int{0, 1, 0, math.MaxInt, 0}, row, false},
		{[]int{0, 1, 0, math.MinInt, 0}, row, false},
		// Cells more and fewer than the length.
		{[]int{0, 1, 9, 2, 0}, row, false},
		{[]int{0, 1, 9, 4, 0}, row, false},
		{[]int{0, 1, 9, 3, 0}, row[:2], false},
		{[]int{0, 1, 9, 3, 0}, cells("1 2 0 0"), false},
		{[]int{0, 1, 9, 3, 0}, nil, false},
		{[]int{0, 1, 9, 0, 0}, row, false},
		{[]int{0, 1, 9, -3, 0}, row, false},
		{[]int{0, 1, 9, -1, 0}, nil, false},
		{[]int{0, 1, 9, 1, 0}, row[:1], true},
		{[]int{0, 2, 9, 1, 0}, row[:1], false},
		// Cells that no run has.
		{[]int{0, 1, 9, 2, 0}, []impl.Cell{written(1), unwritten(1)}, false},
		{[]int{0, 1, 9, 2, 0}, []impl.Cell{written(1), written(math.MaxInt)}, false},
		{[]int{0, 1, 9, 2, 0}, []impl.Cell{unwritten(1), written(1)}, false},
	} {
		if got := impl.SegHas(segSize, segLen, s, one.vals, one.cells); got != one.want {
			t.Fatalf("%d: %v %v: %v", i, one.vals, one.cells, got)
		}
	}
	top := impl.SegTop(segSize, segLen, unsure(span(0, 0)))
	for _, num := range []int{-bound - 1, -bound, bound, bound + 1} {
		for at := range segSize {
			vals := []int{0, 0, 0, 0, 0}
			vals[at] = num
			want := (at == 1 || at == 2 || at == 4) && num >= -bound && num <= bound
			if got := impl.SegHas(segSize, segLen, top, vals, nil); got != want {
				t.Fatalf("%v: %v", vals, got)
			}
		}
	}
	// The size and the length that are asked for, not others.
	two := seg(t, "{0} 1..1 ? {len(a)}")
	if !impl.SegHas(4, 3, two, []int{0, 0, 0, 1}, row[:1]) || impl.SegHas(4, 3, two, []int{0, 0, 0, 1, 0}, row[:1]) || impl.SegHas(5, 3, two, []int{0, 0, 0, 1}, row[:1]) || impl.SegHas(5, 4, two, []int{0, 0, 0, 1, 1}, row[:1]) {
		t.Fatal("size and length")
	}
}

// wantDropText: what is left, told as texts; with the terms in any order, and
// more than once.
func wantDropText(t *testing.T, text, terms, want string) {
	t.Helper()
	s, list := seg(t, text), termList(t, terms)
	turned := slices.Clone(list)
	slices.Reverse(turned)
	for _, gone := range [][]impl.Sym{list, turned, slices.Concat(list, turned)} {
		got := wantDrop(t, segSize, segLen, s, gone)
		wantSeg(t, got, seg(t, want), text, gone)
		if left := impl.SegText(segSize, segLen, got, segNames()); left != want {
			t.Fatalf("%s without %s: %s, want %s", text, terms, left, want)
		}
	}
}

func TestSegDrop(t *testing.T) {
	row := "{0, i} 1..1 {1, j} 3..3 ? {2} 5..5 ? {i + 9} 7..7 or unwritten {len(a), len(b)}"
	for _, one := range [][3]string{
		// No term, terms that do not stand there, Sym{0, 0} and Sym{l, 0}.
		{row, "", row},
		{row, "3, i + 1, j - 1, len(a) - 1, len(b) + 1", row},
		{row, "0", row},
		{row, "len(a)", row},
		{row, "0, len(a)", row},
		{"{0, len(a)}", "0, len(a)", "{0, len(a)}"},
		{"{0} 1..1 {len(a)}", "0, len(a)", "{0} 1..1 {len(a)}"},
		// Terms that are not the last ones of their bounds.
		{row, "i", "{0} 1..1 {1, j} 3..3 ? {2} 5..5 ? {i + 9} 7..7 or unwritten {len(a), len(b)}"},
		{row, "1", "{0, i} 1..1 {j} 3..3 ? {2} 5..5 ? {i + 9} 7..7 or unwritten {len(a), len(b)}"},
		{row, "j", "{0, i} 1..1 {1} 3..3 ? {2} 5..5 ? {i + 9} 7..7 or unwritten {len(a), len(b)}"},
		{row, "len(b)", "{0, i} 1..1 {1, j} 3..3 ? {2} 5..5 ? {i + 9} 7..7 or unwritten {len(a)}"},
		{"{0, i, j, len(a), len(b)}", "i, len(b)", "{0, j, len(a)}"},
		{"{0, i, j, len(a), len(b)}", "0, i, j, len(a), len(b)", "{0, len(a)}"},
		// A bound that becomes empty: at the left, in the midst, at the right.
		{row, "1, j", "{0, i} 1..3 {2} 5..5 ? {i + 9} 7..7 or unwritten {len(a), len(b)}"},
		{row, "2", "{0, i} 1..1 {1, j} 3..5 ? {i + 9} 7..7 or unwritten {len(a), len(b)}"},
		{row, "i + 9", "{0, i} 1..1 {1, j} 3..3 ? {2} 5..7 or unwritten {len(a), len(b)}"},
		// Two beside one another, two apart, all that can go.
		{row, "1, 2, j", "{0, i} 1..5 {i + 9} 7..7 or unwritten {len(a), len(b)}"},
		{row, "2, i + 9", "{0, i} 1..1 {1, j} 3..7 or unwritten {len(a), len(b)}"},
		{row, "1, j, i + 9", "{0, i} 1..3 {2} 5..7 or unwritten {len(a), len(b)}"},
		{row, "1, 2, j, i + 9", "{0, i} 1..7 or unwritten {len(a), len(b)}"},
		{row, "0, 1, 2, i, j, i + 9, len(a), len(b)", "{0} 1..7 or unwritten {len(a)}"},
		{row, "1, 2, i, j, i + 9, len(b)", "{0} 1..7 or unwritten {len(a)}"},
		{"{0} 1..1 {i} 2..2 {len(a)}", "i", "{0} 1..2 {len(a)}"},
		{"{0} 1..1 {i} 9..9 {j} 4..4 {len(a)}", "i, j", "{0} 1..9 {len(a)}"},
		// Of no cell nothing is left in what comes.
		{"{0} none ? {i} 2..2 {len(a)}", "i", "{0} 2..2 {len(a)}"},
		{"{0} 2..2 {i} none ? {len(a)}", "i", "{0} 2..2 {len(a)}"},
		{"{0} none ? {i} none ? {len(a)}", "i", "{0} none ? {len(a)}"},
		{"{0} none or unwritten ? {i} 2..2 {len(a)}", "i", "{0} 2..2 or unwritten {len(a)}"},
		{"{0} -1000000..-1000000 {i} 1000000..1000000 {len(a)}", "i", "{0} -1000000..1000000 {len(a)}"},
	} {
		wantDropText(t, one[0], one[1], one[2])
	}
}

// Each of the four ways of Maybe and of Sure at a bound that goes, at the left,
// in the midst and at the right.
func TestMaybeAndSureDropped(t *testing.T) {
	flags := []bool{false, true}
	mark := func(text string, isSure, isMaybe bool) string {
		if !isSure {
			text += " or unwritten"
		}
		if isMaybe {
			text += " ?"
		}
		return text
	}
	for _, sure1 := range flags {
		for _, sure2 := range flags {
			for _, maybe1 := range flags {
				for _, maybe2 := range flags {
					one, two := mark("1..2", sure1, maybe1), mark("5..6", sure2, maybe2)
					both := mark("1..6", sure1 && sure2, maybe1 && maybe2)
					wantDropText(t, "{0} "+one+" {i} "+two+" {len(a)}", "i", "{0} "+both+" {len(a)}")
					wantDropText(t, "{0} "+one+" {i} "+two+" {j} 9..9 {len(a)}", "i", "{0} "+both+" {j} 9..9 {len(a)}")
					wantDropText(t, "{0} 9..9 ? {j} "+one+" {i} "+two+" {len(a)}", "i", "{0} 9..9 ? {j} "+both+" {len(a)}")
					wantDropText(t, "{0} 9..9 {j} "+one+" {i} "+two+" {7} 8..8 or unwritten ? {len(a)}", "i", "{0} 9..9 {j} "+both+" {7} 8..8 or unwritten ? {len(a)}")
					wantDropText(t, "{0} 3..3 ? {j} "+one+" {i} "+two+" {len(a)}", "i, j", "{0} "+both+" {len(a)}")
					wantDropText(t, "{0} "+one+" {i} "+two+" {j} 3..3 ? {len(a)}", "i, j", "{0} "+both+" {len(a)}")
				}
			}
		}
	}
}

func TestCountsOfDroppedTerms(t *testing.T) {
	for _, s := range okRows(t) {
		for _, gone := range [][]impl.Sym{allTerms(s), {sym(0, 1)}, {sym(99, 99)}, {sym(0, 0)}} {
			for _, count := range []int{39, 40} {
				wantDrop(t, segSize, segLen, s, slices.Repeat(gone, count)[:count])
			}
			for _, count := range []int{41, 42, 80, 1000} {
				if got := impl.SegDrop(segSize, segLen, s, slices.Repeat(gone, count)[:count]); !isNoSeg(got) {
					t.Fatalf("%v without %d terms: %v", s, count, got)
				}
			}
		}
	}
	// The fortieth counts.
	s := plainRow(2, 20)
	list := append(slices.Repeat([]impl.Sym{sym(1, 1)}, 39), sym(0, 7))
	if got := wantDrop(t, segSize, segLen, s, list); len(allTerms(got)) != 39 {
		t.Fatal(got)
	}
	if got := wantDrop(t, segSize, segLen, s, allTerms(s)); !sameSeg(got, seg(t, "{0} 1..1 {len(a)}")) {
		t.Fatal(got)
	}
	// Terms that are none do not stand anywhere.
	odd := []impl.Sym{sym(math.MinInt, math.MaxInt), sym(math.MaxInt, math.MinInt), sym(-1, 0), sym(5, 0), sym(1, 1001), sym(0, -bound), sym(segLen, math.MinInt)}
	for _, s := range okRows(t) {
		wantSeg(t, wantDrop(t, segSize, segLen, s, odd), s, "odd terms")
		wantDrop(t, segSize, segLen, s, append(slices.Clone(odd), sym(1, 0), sym(0, 7), sym(0, 0)))
	}
}

// All ways to take terms out of some rows, against what is told from what stays.
func TestDropsOfAllTerms(t *testing.T) {
	for _, text := range []string{
		"{0, i} 1..1 {1, j} 3..3 ? {2} 5..5 ? {i + 9} 7..7 or unwritten {len(a), len(b)}",
		"{0} 1..1 ? {1} 2..2 ? {2} 3..3 {3} 4..4 ? {4} 5..5 or unwritten ? {5} none ? {6} none or unwritten {7} 0..0 ? {len(a)}",
		"{-1, 0} none {i, j} 2..3 {len(b)} 0..1 ? {3, len(a)}", "{0, i, j, len(a), len(b)}",
	} {
		s := seg(t, text)
		all := allTerms(s)
		for bits := range 1 << len(all) {
			var gone []impl.Sym
			for at, one := range all {
				if bits>>at&1 == 1 {
					gone = append(gone, one)
				}
			}
			wantDrop(t, segSize, segLen, s, gone)
		}
	}
	for _, s := range []impl.Seg{plainRow(16, 2), plainRow(13, 3), plainRow(8, 5), plainRow(16, 1)} {
		all := allTerms(s)
		for from := range all {
			for to := from; to <= len(all); to++ {
				wantDrop(t, segSize, segLen, s, all[from:to])
			}
		}
	}
}

// stateOf: the numbers of the symbols and the cells of the array.
type stateOf struct {
	vals  []int
	cells []impl.Cell
}

// someState: a state of so many symbols, of which l is the length.
func someState(next func(int) int, size, l int) stateOf {
	s := stateOf{vals: make([]int, size), cells: make([]impl.Cell, next(8))}
	for at := 1; at < size; at++ {
		s.vals[at] = next(9) - 1
	}
	s.vals[l] = len(s.cells)
	for at := range s.cells {
		if next(4) > 0 {
			s.cells[at] = written(next(5) - 2)
		}
	}
	return s
}

// near: a state that is a little other than this.
func (s stateOf) near(next func(int) int, l int) stateOf {
	other := stateOf{slices.Clone(s.vals), slices.Clone(s.cells)}
	switch at := 1 + next(len(s.vals)-1); {
	case next(4) == 0:
		other.cells = append(other.cells, written(next(5)-2))
	case next(3) > 0 && len(other.cells) > 0:
		other.cells[next(len(other.cells))] = []impl.Cell{{}, written(0), written(1), written(-2)}[next(4)]
	default:
		other.vals[at] += next(3) - 1
	}
	other.vals[l] = len(other.cells)
	return other
}

// someRowAround: a Seg that has a state: of the terms that are a number from 0
// to the length in it those of one number stand in one bound, or in two.
func someRowAround(next func(int) int, l int, state stateOf) impl.Seg {
	var s impl.Seg
	place := 0
	for num := range len(state.cells) + 1 {
		for _, bound := range boundsAt(next, state.vals, l, num) {
			if len(s.Bounds) == 14 || len(allTerms(s))+len(bound) > 38 {
				break
			}
			if len(s.Bounds) > 0 {
				s.Vals, s.Maybe = append(s.Vals, valAround(next, state.cells[place:num])), append(s.Maybe, place == num || next(2) == 0)
			}
			s.Bounds = append(s.Bounds, bound)
			place = num
		}
	}
	return withEnds(next, s, l, state)
}

// boundsAt: some terms that are this number, in no bound, in one or in two.
func boundsAt(next func(int) int, vals []int, l, num int) [][]impl.Sym {
	var terms []impl.Sym
	for v, val := range vals {
		if term := sym(v, num-val); term != sym(0, 0) && term != sym(l, 0) && next(3) == 0 {
			terms = append(terms, term)
		}
	}
	cut := next(len(terms) + 1)
	switch {
	case len(terms) == 0:
		return nil
	case cut == 0 || cut == len(terms) || next(2) == 0:
		return [][]impl.Sym{terms}
	}
	return [][]impl.Sym{slices.Clone(terms[:cut]), slices.Clone(terms[cut:])}
}

// valAround: what is so of these cells, and often of others.
func valAround(next func(int) int, list []impl.Cell) impl.Val {
	v := noCell()
	for _, c := range list {
		one := unsure(noRange())
		if c.Written {
			one = sure(span(c.Num, c.Num))
		}
		v = impl.ValJoin(v, one)
	}
	others := append(valsOver([]int{-2, 0, 2}), noCell(), noCell(), noCell())
	return impl.ValJoin(v, others[next(len(others))])
}

// withEnds: lays the beginning and the end of the array into the bounds, or
// sets bounds of their own ahead and behind.
func withEnds(next func(int) int, s impl.Seg, l int, state stateOf) impl.Seg {
	count := len(state.cells)
	at := func(bound []impl.Sym) int { return state.vals[bound[0].V] + bound[0].C }
	switch {
	case len(s.Bounds) == 0:
		s.Bounds = [][]impl.Sym{{sym(0, 0)}}
	case at(s.Bounds[0]) == 0 && next(2) == 0:
		s.Bounds[0] = slices.Insert(s.Bounds[0], 0, sym(0, 0))
	default:
		first := at(s.Bounds[0])
		s.Bounds = slices.Insert(s.Bounds, 0, []impl.Sym{sym(0, 0)})
		s.Vals = slices.Insert(s.Vals, 0, valAround(next, state.cells[:first]))
		s.Maybe = slices.Insert(s.Maybe, 0, first == 0 || next(2) == 0)
	}
	last := len(s.Bounds) - 1
	if begin := at(s.Bounds[last]); begin < count || next(2) == 0 {
		s.Vals, s.Maybe = append(s.Vals, valAround(next, state.cells[begin:])), append(s.Maybe, begin == count || next(2) == 0)
		s.Bounds = append(s.Bounds, []impl.Sym{sym(l, 0)})
		return s
	}
	s.Bounds[last] = append(s.Bounds[last], sym(l, 0))
	slices.SortFunc(s.Bounds[last], func(a, b impl.Sym) int { return a.V - b.V })
	return s
}

// Promise 27: over many rows and states, with any terms: a Seg that has a state
// has it still without some of its terms.
func TestRowsHaveTheirStatesWithoutTerms(t *testing.T) {
	next := draws(27)
	had, hadNot, went, long := 0, 0, 0, 0
	for range 4000 {
		size := 2 + next(12)
		l := 1 + next(size-1)
		state := someState(next, size, l)
		s := someRowAround(next, l, state)
		if wantSegOk(t, size, l, s, true); !isSegByPairs(size, l, s) || !isSoByCells(size, l, s, state.vals, state.cells) {
			t.Fatalf("%v is not made around %v", s, state)
		}
		states := []stateOf{state, someState(next, size, l)}
		for len(states) < 12 {
			states = append(states, states[next(len(states))].near(next, l))
		}
		for range 4 {
			var gone []impl.Sym
			for _, one := range allTerms(s) {
				if len(gone) < 38 && next(3) > 0 {
					gone = append(gone, one)
				}
			}
			gone = append(gone, []impl.Sym{sym(0, 0), sym(l, 0), sym(next(size), next(3)-1)}[next(3)])
			left := wantDrop(t, size, l, s, gone)
			for _, one := range states {
				has := impl.SegHas(size, l, s, one.vals, one.cells)
				if has != isSoByCells(size, l, s, one.vals, one.cells) {
					t.Fatalf("%v has %v: %v", s, one, has)
				}
				if !has {
					hadNot++
					continue
				}
				had++
				if !impl.SegHas(size, l, left, one.vals, one.cells) {
					t.Fatalf("%v has %v, but without %v: %v", s, one, gone, left)
				}
			}
			went += len(s.Bounds) - len(left.Bounds)
		}
		if len(s.Bounds) > 8 {
			long++
		}
	}
	if had < 30000 || hadNot < 30000 || went < 10000 || long < 300 {
		t.Fatalf("%d had, %d not, %d bounds went, %d rows are long", had, hadNot, went, long)
	}
}

// smallRows: all Segs of three symbols with the bounds that are told, and all
// ways of some Vals and of Maybe between them.
func smallRows(bounds [][]impl.Sym, vals []impl.Val) []impl.Seg {
	list := []impl.Seg{{Bounds: bounds}}
	for range len(bounds) - 1 {
		var more []impl.Seg
		for _, s := range list {
			for _, v := range vals {
				for _, maybe := range []bool{false, true} {
					more = append(more, changed(s, func(s *impl.Seg) { s.Vals, s.Maybe = append(s.Vals, v), append(s.Maybe, maybe) }))
				}
			}
		}
		list = more
	}
	return list
}

// smallBounds: ways to lay 0, 1, i, i + 1 and the length into one to four
// bounds.
func smallBounds() [][][]impl.Sym {
	var list [][][]impl.Sym
	begin, one, i, after, end := sym(0, 0), sym(0, 1), sym(1, 0), sym(1, 1), sym(2, 0)
	for count := 1; count <= 4; count++ {
		// For each of the three in the midst: its bound, or none.
		for way := range (count + 1) * (count + 1) * (count + 1) {
			bounds := make([][]impl.Sym, count)
			bounds[0] = append(bounds[0], begin)
			for _, term := range []impl.Sym{one, i, after} {
				if at := way % (count + 1); at < count {
					bounds[at] = append(bounds[at], term)
				}
				way /= count + 1
			}
			bounds[count-1] = append(bounds[count-1], end)
			if !slices.ContainsFunc(bounds, func(b []impl.Sym) bool { return len(b) == 0 }) {
				list = append(list, bounds)
			}
		}
	}
	return list
}

// Promise 27: of all small rows, in all small states, without any of their
// terms; and each has just the states of which it is so.
func TestSmallRowsWithoutTerms(t *testing.T) {
	var states []stateOf
	for _, list := range cellRows(cellsOver([]int{1, 2}), 3) {
		for i := -1; i <= 4; i++ {
			states = append(states, stateOf{[]int{0, i, len(list)}, list})
		}
	}
	vals := []impl.Val{noCell(), sure(span(1, 1)), unsure(span(2, 2))}
	had := 0
	for _, bounds := range smallBounds() {
		for _, s := range smallRows(bounds, vals) {
			wantSegOk(t, 3, 2, s, true)
			var less []impl.Seg
			for bits := range 8 {
				var gone []impl.Sym
				for at, one := range []impl.Sym{sym(0, 1), sym(1, 0), sym(1, 1)} {
					if bits>>at&1 == 1 {
						gone = append(gone, one)
					}
				}
				if bits == 0 || slices.ContainsFunc(gone, func(one impl.Sym) bool { return slices.Contains(allTerms(s), one) }) {
					less = append(less, impl.SegDrop(3, 2, s, gone))
				}
			}
			for _, state := range states {
				has := impl.SegHas(3, 2, s, state.vals, state.cells)
				if has != isSoByCells(3, 2, s, state.vals, state.cells) {
					t.Fatalf("%v has %v: %v", s, state, has)
				}
				for _, other := range less {
					if has && !impl.SegHas(3, 2, other, state.vals, state.cells) {
						t.Fatalf("%v has %v, %v has not", s, state, other)
					}
				}
				if has {
					had++
				}
			}
		}
	}
	if had < 3000 {
		t.Fatalf("only %d states are had", had)
	}
}

// The Segs of the promise with something done to them: whether they are ok is
// as asked pair by pair.
func TestSpoiltSegs(t *testing.T) {
	next := draws(1010)
	counts := [2]int{}
	for range 20000 {
		size := 2 + next(12)
		l := 1 + next(size-1)
		s := someRowAround(next, l, someState(next, size, l))
		at := next(len(s.Bounds))
		one := next(len(s.Bounds[at]))
		switch next(9) {
		case 0:
			s.Bounds[at][one].C += next(5) - 2
		case 1:
			s.Bounds[at][one].V += next(5) - 2
		case 2:
			other := next(len(s.Bounds))
			s.Bounds[at], s.Bounds[other] = s.Bounds[other], s.Bounds[at]
		case 3:
			s.Bounds[at] = slices.Delete(s.Bounds[at], one, one+1)
		case 4:
			other := s.Bounds[next(len(s.Bounds))]
			s.Bounds[at] = append(slices.Clone(s.Bounds[at]), other[next(len(other))])
		case 5:
			s.Vals = append(s.Vals, impl.Val{})[:next(len(s.Vals)+2)]
		case 6:
			s.Maybe = append(s.Maybe, true)[:next(len(s.Maybe)+2)]
		case 7:
			if len(s.Vals) > 0 {
				s.Vals[next(len(s.Vals))].R.Lo += next(4)
			}
		case 8:
			size, l = size+next(3)-1, l+next(3)-1
		}
		want := isSegByPairs(size, l, s)
		wantSegOk(t, size, l, s, want)
		if want {
			counts[0]++
			wantDrop(t, size, l, s, allTerms(s)[:next(len(allTerms(s))+1)])
			continue
		}
		counts[1]++
		if !isNoSeg(impl.SegDrop(size, l, s, nil)) || impl.SegText(size, l, s, lettersUpTo(max(size-1, 0))) != "" {
			t.Fatal(size, l, s)
		}
	}
	if counts[0] < 3000 || counts[1] < 3000 {
		t.Fatal(counts)
	}
}

func TestSegText(t *testing.T) {
	for _, text := range []string{
		"{0, len(a)}", "{-1000, 0, 1000, i - 1000, j + 1000, len(a), len(b) - 1}", "{0} 0..5 {len(a)}", "{0} 0..5 ? {len(a)}", "{0} 0..5 or unwritten {len(a)}", "{0} 0..5 or unwritten ? {len(a)}",
		"{0} none {len(a)}", "{0} none ? {len(a)}", "{0} none or unwritten {len(a)}", "{0} none or unwritten ? {len(a)}", "{0} -7..-7 {1, i - 2} 2..2 or unwritten ? {len(a)}",
		"{0, i} 0..0 {1, i + 1} -1000000..1000000 or unwritten ? {j, len(b)} 3..4 ? {len(a) - 1} none {5, len(a), len(b) + 1}",
	} {
		s := seg(t, text)
		for range 2 {
			if got := impl.SegText(segSize, segLen, s, segNames()); got != text {
				t.Fatalf("%q is written as %q", text, got)
			}
		}
	}
	for _, s := range okRows(t) {
		want := textByPieces(s, segNames())
		if got := impl.SegText(segSize, segLen, s, segNames()); got != want || !sameSeg(seg(t, got), s) {
			t.Fatalf("%v is written as %q, want %q", s, got, want)
		}
	}
	top := impl.SegTop(2, 1, sure(span(0, 5)))
	for name, want := range map[string]string{"len(a)": "{0} 0..5 ? {len(a)}", "x": "{0} 0..5 ? {x}", "a1234567": "{0} 0..5 ? {a1234567}", "len(a1234567)": "{0} 0..5 ? {len(a1234567)}", "A": "", "": "", "len": "", "var": "", "len()": "", "a12345678": "", "1": "", "len(1)": "", "a b": ""} {
		if got := impl.SegText(2, 1, top, []string{name}); got != want {
			t.Fatalf("%q: %q", name, got)
		}
	}
	// Labels may be alike.
	if got := impl.SegText(3, 2, seg3(), []string{"x", "x"}); got != "{0, x} 1..1 {x}" {
		t.Fatal(got)
	}
}

func seg3() impl.Seg {
	return impl.Seg{Bounds: [][]impl.Sym{{sym(0, 0), sym(1, 0)}, {sym(2, 0)}}, Vals: []impl.Val{sure(span(1, 1))}, Maybe: []bool{false}}
}

// textByPieces: a row as it is to be written, byte by byte.
func textByPieces(s impl.Seg, names []string) string {
	text := ""
	for at, bound := range s.Bounds {
		if at > 0 {
			v := s.Vals[at-1]
			text += " "
			if v.R == noRange() {
				text += "none"
			} else {
				text += strconv.Itoa(v.R.Lo) + ".." + strconv.Itoa(v.R.Hi)
			}
			if !v.Sure {
				text += " or unwritten"
			}
			if s.Maybe[at-1] {
				text += " ?"
			}
			text += " "
		}
		text += "{"
		for place, one := range bound {
			if place > 0 {
				text += ", "
			}
			switch {
			case one.V == 0:
				text += strconv.Itoa(one.C)
			case one.C > 0:
				text += names[one.V-1] + " + " + strconv.Itoa(one.C)
			case one.C < 0:
				text += names[one.V-1] + " - " + strconv.Itoa(-one.C)
			default:
				text += names[one.V-1]
			}
		}
		text += "}"
	}
	return text
}

func TestNamesOfSegs(t *testing.T) {
	for size := 2; size <= 13; size++ {
		for l := 1; l < size; l++ {
			s := impl.SegTop(size, l, unsure(span(1, 2)))
			for count := range 16 {
				names, want := lettersUpTo(count), ""
				if count == size-1 {
					want = "{0} 1..2 or unwritten ? {" + names[l-1] + "}"
				}
				if got := impl.SegText(size, l, s, names); got != want {
					t.Fatalf("%d symbols, %d names: %q, want %q", size, count, got, want)
				}
			}
			// A label that is none, also where no term has it.
			for at := range size - 1 {
				names := lettersUpTo(size - 1)
				names[at] = "len"
				if got := impl.SegText(size, l, s, names); got != "" {
					t.Fatalf("%v: %q", names, got)
				}
			}
		}
	}
	if impl.SegText(2, 1, impl.SegTop(2, 1, impl.Val{}), nil) != "" {
		t.Fatal("no names")
	}
}

// wipeSeg: writes into each list of an answer, and into the room behind it, and
// asks that no other list of it is changed.
func wipeSeg(t *testing.T, s impl.Seg) {
	t.Helper()
	mark := sym(math.MinInt, math.MaxInt)
	for at := range s.Bounds {
		whole := s.Bounds[at][:cap(s.Bounds[at])]
		for place := range whole {
			whole[place] = mark
		}
		for _, later := range s.Bounds[at+1:] {
			if slices.Contains(later, mark) {
				t.Fatalf("%v: two lists share memory", s)
			}
		}
	}
	clear(s.Bounds[:cap(s.Bounds)])
	clear(s.Vals[:cap(s.Vals)])
	clear(s.Maybe[:cap(s.Maybe)])
}

// roomy: the same Seg in lists with room behind them, in which something else
// stands.
func roomy(s impl.Seg) impl.Seg {
	r := impl.Seg{Vals: append(slices.Clone(s.Vals), sure(span(9, 3)), impl.Val{})[:len(s.Vals)], Maybe: append(slices.Clone(s.Maybe), true, false)[:len(s.Maybe)]}
	for _, bound := range s.Bounds {
		r.Bounds = append(r.Bounds, append(slices.Clone(bound), sym(0, 0), sym(-5, 77))[:len(bound)])
	}
	r.Bounds = append(r.Bounds, []impl.Sym{sym(0, 0)}, nil)[:len(s.Bounds)]
	return r
}

// behind: what stands in the room behind the lists of a Seg that is roomy.
func behind(s impl.Seg) ([]impl.Sym, []impl.Val, []bool) {
	var terms []impl.Sym
	for _, bound := range s.Bounds {
		terms = append(terms, bound[len(bound):len(bound)+2]...)
	}
	terms = append(terms, s.Bounds[:len(s.Bounds)+1][len(s.Bounds)]...)
	return terms, slices.Clone(s.Vals[len(s.Vals) : len(s.Vals)+2]), slices.Clone(s.Maybe[len(s.Maybe) : len(s.Maybe)+2])
}

// Every answer is new memory, nothing is written into an argument nor behind
// it, what is behind it is not read, and the same is told each time.
func TestSegArgumentsAreKept(t *testing.T) {
	for _, one := range okRows(t) {
		s := roomy(one)
		terms1, vals1, maybe1 := behind(s)
		room := append(allTerms(one), sym(0, 0), sym(7, 7), sym(1, 0))
		for count := range min(len(allTerms(one)), 40) + 1 {
			gone := room[:count]
			want := dropByPlaces(segLen, one, gone)
			for range 2 {
				got := impl.SegDrop(segSize, segLen, s, gone)
				wantSeg(t, got, want, one, gone)
				wipeSeg(t, got)
			}
		}
		if !slices.Equal(room, append(allTerms(one), sym(0, 0), sym(7, 7), sym(1, 0))) {
			t.Fatal(room)
		}
		names := append(segNames(), "?", "")
		vals := []int{0, 0, 0, 1, 1, 7, math.MaxInt}
		row := []impl.Cell{written(1), written(5), unwritten(3)}
		has := isSoByCells(segSize, segLen, one, vals[:5], row[:1])
		for range 2 {
			wantSegOk(t, segSize, segLen, s, true)
			if impl.SegHas(segSize, segLen, s, vals[:5], row[:1]) != has || impl.SegHas(segSize, segLen, s, vals, row[:1]) {
				t.Fatal(s, has)
			}
			if got := impl.SegText(segSize, segLen, s, names[:4]); got != textByPieces(one, names) {
				t.Fatal(got)
			}
		}
		terms2, vals2, maybe2 := behind(s)
		if !sameSeg(s, one) || !slices.Equal(terms1, terms2) || !slices.Equal(vals1, vals2) || !slices.Equal(maybe1, maybe2) {
			t.Fatalf("%v has become %v", one, s)
		}
		if !slices.Equal(names, append(segNames(), "?", "")) || !slices.Equal(vals, []int{0, 0, 0, 1, 1, 7, math.MaxInt}) || !slices.Equal(row, []impl.Cell{written(1), written(5), unwritten(3)}) {
			t.Fatal(names, vals, row)
		}
	}
	for range 2 {
		top := impl.SegTop(segSize, segLen, sure(span(1, 2)))
		wantSeg(t, top, seg(t, "{0} 1..2 ? {len(a)}"))
		wipeSeg(t, top)
	}
}

// What bounds share in an argument they do not share in an answer.
func TestSharedBoundsAreParted(t *testing.T) {
	all := []impl.Sym{sym(0, 0), sym(0, 1), sym(1, 0), sym(1, 4), sym(3, 0)}
	s := impl.Seg{Bounds: [][]impl.Sym{all[:2], all[2:3], all[3:]}, Vals: []impl.Val{{}, {}}, Maybe: []bool{true, true}}
	for _, gone := range [][]impl.Sym{nil, all[1:2], all[2:3], all[3:4], all} {
		before := slices.Clone(all)
		want := dropByPlaces(segLen, s, gone)
		got := impl.SegDrop(segSize, segLen, s, gone)
		wantSeg(t, got, want, gone)
		wipeSeg(t, got)
		if !slices.Equal(all, before) {
			t.Fatalf("%v has become %v", before, all)
		}
	}
}

// The cells of programs that run: of a row around a state of a run this state
// is had, with and without its terms.
func TestSegsAlongRuns(t *testing.T) {
	next := draws(1027)
	asked := 0
	for range 120 {
		n := runProgram(t, next)
		var lens []int
		for _, size := range impl.SizesOf(n) {
			if size < 0 {
				lens = append(lens, next(5))
			}
		}
		labels := impl.LabelsOf(n)
		for fuel := 0; fuel < 40; fuel += 7 {
			c := impl.RunTo(n, lens, []int{3, -1, 2, 0, 5}, fuel)
			vals := valsOf(c)
			for k, list := range c.Cells {
				size, l := len(vals), 1+len(c.Vars)+k
				s := someRowAround(next, l, stateOf{vals, list})
				if !impl.SegOk(size, l, s) {
					continue
				}
				asked++
				all := allTerms(s)
				left := wantDrop(t, size, l, s, all[next(len(all)):])
				if !impl.SegHas(size, l, s, vals, list) || !impl.SegHas(size, l, left, vals, list) {
					t.Fatalf("%s has not %v %v", impl.SegText(size, l, s, labels), vals, list)
				}
			}
		}
	}
	if asked < 500 {
		t.Fatalf("only %d", asked)
	}
}
