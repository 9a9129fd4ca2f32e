package tests

import (
	"math"
	"slices"
	"testing"

	"loop.example/g00093/impl"
)

// termsWith: the terms of a symbol in a Seg, in the order in which they stand.
func termsWith(s impl.Seg, v int) []impl.Sym {
	return slices.DeleteFunc(allTerms(s), func(term impl.Sym) bool { return term.V != v })
}

// forgetByPlaces, shiftByPlaces and copyByPlaces: the three assignments under a
// Seg that is ok, with arguments as said, told otherwise.
func forgetByPlaces(l int, s impl.Seg, v int) impl.Seg {
	return dropByPlaces(l, s, termsWith(s, v))
}

func shiftByPlaces(l int, s impl.Seg, v, c int) impl.Seg {
	far := slices.DeleteFunc(termsWith(s, v), func(term impl.Sym) bool { return term.C-c <= 1000 && term.C-c >= -1000 })
	return changed(dropByPlaces(l, s, far), func(s *impl.Seg) {
		for _, bound := range s.Bounds {
			for at := range bound {
				if bound[at].V == v {
					bound[at].C -= c
				}
			}
		}
	})
}

func copyByPlaces(l int, s impl.Seg, v, w, c int) impl.Seg {
	s = forgetByPlaces(l, s, v)
	sources := slices.DeleteFunc(termsWith(s, w), func(term impl.Sym) bool { return term.C-c > 1000 || term.C-c < -1000 })
	sources = sources[:min(len(sources), 40-len(allTerms(s)))]
	return changed(s, func(s *impl.Seg) {
		for _, source := range sources {
			at := slices.IndexFunc(s.Bounds, func(bound []impl.Sym) bool { return slices.Contains(bound, source) })
			term := sym(v, source.C-c)
			place := slices.IndexFunc(s.Bounds[at], func(other impl.Sym) bool { return impl.SymLess(term, other) })
			if place < 0 {
				place = len(s.Bounds[at])
			}
			s.Bounds[at] = slices.Insert(s.Bounds[at], place, term)
		}
	})
}

// canMove: whether the arguments beside a Seg that is ok are as said.
func canMove(size, l, v, w, c int) bool {
	return v >= 1 && v < size && v != l && w >= 0 && w < size && w != v && c >= -2000000 && c <= 2000000
}

// wantMoved: what came of a Seg that is ok is as it is told otherwise, is ok,
// and left the Seg as it was.
func wantMoved(t *testing.T, size, l int, s, before, got, want impl.Seg, about ...any) impl.Seg {
	t.Helper()
	wantSeg(t, got, want, append(about, s)...)
	if wantSegOk(t, size, l, got, true); !isSegByPairs(size, l, got) {
		t.Fatalf("%v: %v comes of %v", about, got, s)
	}
	wantSeg(t, s, before, about...)
	return got
}

func wantForget(t *testing.T, size, l int, s impl.Seg, v int) impl.Seg {
	t.Helper()
	before := copySeg(s)
	return wantMoved(t, size, l, s, before, impl.SegForget(size, l, s, v), forgetByPlaces(l, s, v), "forget", v)
}

func wantShift(t *testing.T, size, l int, s impl.Seg, v, c int) impl.Seg {
	t.Helper()
	before := copySeg(s)
	return wantMoved(t, size, l, s, before, impl.SegShift(size, l, s, v, c), shiftByPlaces(l, s, v, c), "shift", v, c)
}

func wantCopy(t *testing.T, size, l int, s impl.Seg, v, w, c int) impl.Seg {
	t.Helper()
	before := copySeg(s)
	return wantMoved(t, size, l, s, before, impl.SegCopy(size, l, s, v, w, c), copyByPlaces(l, s, v, w, c), "copy", v, w, c)
}

// wantMovedText: a Seg of the five symbols that came of another one, as a text.
func wantMovedText(t *testing.T, from string, got impl.Seg, want string) {
	t.Helper()
	if text := impl.SegText(segSize, segLen, got, segNames()); text != want {
		t.Fatalf("%s: %s, want %s", from, text, want)
	}
}

// wantNoMove: none of the three assignments tells anything.
func wantNoMove(t *testing.T, size, l int, s impl.Seg, v, w, c int) {
	t.Helper()
	for name, got := range map[string]impl.Seg{"forget": impl.SegForget(size, l, s, v), "shift": impl.SegShift(size, l, s, v, c), "copy": impl.SegCopy(size, l, s, v, w, c)} {
		if !isNoSeg(got) {
			t.Fatalf("%s: %d, %d: %v, %d, %d, %d: %v", name, size, l, s, v, w, c, got)
		}
	}
}

func TestSegForget(t *testing.T) {
	row := "{0, i - 1, i} 1..1 {1, i + 1, j} 3..3 ? {i + 5} 5..5 ? {j + 2} 7..7 or unwritten {i + 9, len(a), len(b)}"
	for _, one := range []struct {
		text string
		v    int
		want string
	}{
		// In the first bound, in the last one, in the midst beside others and alone.
		{row, 1, "{0} 1..1 {1, j} 3..5 ? {j + 2} 7..7 or unwritten {len(a), len(b)}"},
		{row, 2, "{0, i - 1, i} 1..1 {1, i + 1} 3..3 ? {i + 5} 5..7 or unwritten {i + 9, len(a), len(b)}"},
		{row, 4, "{0, i - 1, i} 1..1 {1, i + 1, j} 3..3 ? {i + 5} 5..5 ? {j + 2} 7..7 or unwritten {i + 9, len(a)}"},
		{"{0, i} 1..1 {len(a)}", 1, "{0} 1..1 {len(a)}"},
		{"{-3, 0, i - 1000, i + 1000} 1..1 ? {len(a)}", 1, "{-3, 0} 1..1 ? {len(a)}"},
		{"{0, len(b)} 1..1 {len(a)}", 4, "{0} 1..1 {len(a)}"},
		{"{0} 1..1 {i, len(a)}", 1, "{0} 1..1 {len(a)}"},
		{"{0} 1..1 {len(a), len(b) - 1, len(b)}", 4, "{0} 1..1 {len(a)}"},
		{"{0} 1..1 {2, i} 2..2 ? {len(a)}", 1, "{0} 1..1 {2} 2..2 ? {len(a)}"},
		{"{0} 1..1 {i, i + 1, len(b)} 2..2 ? {len(a)}", 4, "{0} 1..1 {i, i + 1} 2..2 ? {len(a)}"},
		{"{0} 1..1 {i} 2..2 {len(a)}", 1, "{0} 1..2 {len(a)}"},
		{"{0} 1..1 {i - 1, i, i + 1} 2..2 {len(a)}", 1, "{0} 1..2 {len(a)}"},
		{"{0} 1..1 {i} 2..2 {i + 1} 9..9 {j} 4..4 {len(a)}", 1, "{0} 1..9 {j} 4..4 {len(a)}"},
		{"{0} 1..1 {i} 2..2 {j} 9..9 {i + 1} 4..4 {len(a)}", 1, "{0} 1..2 {j} 4..9 {len(a)}"},
		{"{0} 1..1 {i} 2..2 {i + 1} 9..9 {i + 2} 4..4 {len(a)}", 1, "{0} 1..9 {len(a)}"},
		{"{0} none ? {i} 2..2 {len(a)}", 1, "{0} 2..2 {len(a)}"},
		{"{0} 1..1 {i} none or unwritten ? {len(a)}", 1, "{0} 1..1 or unwritten {len(a)}"},
		{"{0, i, j, len(a), len(b)}", 2, "{0, i, len(a), len(b)}"},
		// No term of it at all.
		{"{0, len(a)}", 1, "{0, len(a)}"},
		{"{0} 1..1 {j} 2..2 {len(a)}", 1, "{0} 1..1 {j} 2..2 {len(a)}"},
		{"{0, 1, 2, i} 1..1 or unwritten {len(a) - 1} 2..2 ? {len(a)}", 2, "{0, 1, 2, i} 1..1 or unwritten {len(a) - 1} 2..2 ? {len(a)}"},
		{"{0, i} 1..1 {4} 2..2 {len(a)}", 4, "{0, i} 1..1 {4} 2..2 {len(a)}"},
	} {
		wantMovedText(t, one.text, wantForget(t, segSize, segLen, seg(t, one.text), one.v), one.want)
	}
}

// Each of the four ways of Maybe and of Sure at a bound that goes, by each of
// the three.
func TestMaybeAndSureMoved(t *testing.T) {
	for bits := range 16 {
		mark := func(text string, isUnsure, isMaybe bool) string {
			if isUnsure {
				text += " or unwritten"
			}
			if isMaybe {
				text += " ?"
			}
			return text
		}
		one, two := mark("1..2", bits&1 > 0, bits&2 > 0), mark("5..6", bits&4 > 0, bits&8 > 0)
		both := mark("1..6", bits&5 > 0, bits&10 == 10)
		text := "{0} 9..9 ? {j} " + one + " {i} " + two + " {7} 8..8 {len(a)}"
		want := "{0} 9..9 ? {j} " + both + " {7} 8..8 {len(a)}"
		s := seg(t, text)
		wantMovedText(t, text, wantForget(t, segSize, segLen, s, 1), want)
		wantMovedText(t, text, wantShift(t, segSize, segLen, s, 1, 1001), want)
		wantMovedText(t, text, wantShift(t, segSize, segLen, s, 1, -gap), want)
		wantMovedText(t, text, wantCopy(t, segSize, segLen, s, 1, 4, 0), want)
		// Nothing goes: all stays as it is.
		wantMovedText(t, text, wantShift(t, segSize, segLen, s, 1, 1), "{0} 9..9 ? {j} "+one+" {i - 1} "+two+" {7} 8..8 {len(a)}")
		wantMovedText(t, text, wantCopy(t, segSize, segLen, s, 4, 1, 1), "{0} 9..9 ? {j} "+one+" {i, len(b) - 1} "+two+" {7} 8..8 {len(a)}")
	}
}

func TestSegShift(t *testing.T) {
	row := "{0, i - 1, i} 1..1 {1, i + 1, j} 3..3 ? {i + 5} 5..5 ? {j + 2} 7..7 or unwritten {i + 9, len(a), len(b)}"
	for _, one := range []struct {
		text string
		v, c int
		want string
	}{
		{row, 1, 0, row},
		{row, 2, 0, row},
		{row, 1, 1, "{0, i - 2, i - 1} 1..1 {1, i, j} 3..3 ? {i + 4} 5..5 ? {j + 2} 7..7 or unwritten {i + 8, len(a), len(b)}"},
		{row, 1, -1, "{0, i, i + 1} 1..1 {1, i + 2, j} 3..3 ? {i + 6} 5..5 ? {j + 2} 7..7 or unwritten {i + 10, len(a), len(b)}"},
		{row, 2, 2, "{0, i - 1, i} 1..1 {1, i + 1, j - 2} 3..3 ? {i + 5} 5..5 ? {j} 7..7 or unwritten {i + 9, len(a), len(b)}"},
		{row, 4, -7, "{0, i - 1, i} 1..1 {1, i + 1, j} 3..3 ? {i + 5} 5..5 ? {j + 2} 7..7 or unwritten {i + 9, len(a), len(b) + 7}"},
		{row, 1, 1005, "{0} 1..1 {1, j} 3..3 ? {i - 1000} 5..5 ? {j + 2} 7..7 or unwritten {i - 996, len(a), len(b)}"},
		{row, 1, 1006, "{0} 1..1 {1, j} 3..5 ? {j + 2} 7..7 or unwritten {i - 997, len(a), len(b)}"},
		{row, 1, -995, "{0, i + 994, i + 995} 1..1 {1, i + 996, j} 3..3 ? {i + 1000} 5..5 ? {j + 2} 7..7 or unwritten {len(a), len(b)}"},
		{row, 1, -996, "{0, i + 995, i + 996} 1..1 {1, i + 997, j} 3..5 ? {j + 2} 7..7 or unwritten {len(a), len(b)}"},
		{row, 1, gap, "{0} 1..1 {1, j} 3..5 ? {j + 2} 7..7 or unwritten {len(a), len(b)}"},
		{row, 1, -gap, "{0} 1..1 {1, j} 3..5 ? {j + 2} 7..7 or unwritten {len(a), len(b)}"},
		{row, 4, gap, "{0, i - 1, i} 1..1 {1, i + 1, j} 3..3 ? {i + 5} 5..5 ? {j + 2} 7..7 or unwritten {i + 9, len(a)}"},
		// Terms of others that could be taken for those that go or move.
		{"{0, 5} 1..1 {i + 5} 2..2 {j + 5} 3..3 {len(a), len(a) + 5, len(b) + 5}", 2, 5, "{0, 5} 1..1 {i + 5} 2..2 {j} 3..3 {len(a), len(a) + 5, len(b) + 5}"},
		{"{0, 5} 1..1 {i + 5} 2..2 {j + 5} 3..3 {len(a), len(a) + 5, len(b) + 5}", 1, 1006, "{0, 5} 1..2 {j + 5} 3..3 {len(a), len(a) + 5, len(b) + 5}"},
		// One that becomes what another one was.
		{"{0, i} 1..1 {i + 1} 2..2 {i + 2} 3..3 {i + 3, len(a)}", 1, 1, "{0, i - 1} 1..1 {i} 2..2 {i + 1} 3..3 {i + 2, len(a)}"},
		{"{0, i} 1..1 {i + 1} 2..2 {i + 2} 3..3 {i + 3, len(a)}", 1, -1, "{0, i + 1} 1..1 {i + 2} 2..2 {i + 3} 3..3 {i + 4, len(a)}"},
		{"{0, i + 1, len(a)}", 1, 1, "{0, i, len(a)}"},
		{"{0} 1..1 {len(a)}", 1, 1, "{0} 1..1 {len(a)}"},
		{"{0, len(a)}", 4, -gap, "{0, len(a)}"},
	} {
		wantMovedText(t, one.text, wantShift(t, segSize, segLen, seg(t, one.text), one.v, one.c), one.want)
	}
}

// Terms that are just at MaxOff behind the shift, and one past it: alone in
// their bounds, beside others of the symbol, beside those of others, and in the
// first bound and the last one.
func TestShiftsAtMaxOff(t *testing.T) {
	for _, one := range []struct {
		from, c int
		stays   bool
	}{
		{0, 1000, true}, {0, 1001, false}, {0, 999, true}, {0, -1000, true}, {0, -1001, false}, {0, -999, true},
		{1000, 0, true}, {1000, -1, false}, {1000, 2000, true}, {1000, 2001, false}, {1000, 1999, true}, {1000, 1, true},
		{-1000, 0, true}, {-1000, 1, false}, {-1000, -2000, true}, {-1000, -2001, false}, {-1000, -1999, true}, {-1000, -1, true},
		{7, 1007, true}, {7, 1008, false}, {7, -993, true}, {7, -994, false},
	} {
		for v := range segSize {
			if v == 0 || v == segLen {
				continue
			}
			term := sym(v, one.from)
			place := func(at int) impl.Seg {
				return changed(seg(t, "{0} 1..1 {777} 2..2 ? {888} 3..3 {len(a)}"), func(s *impl.Seg) {
					s.Bounds[at] = append(s.Bounds[at], term)
					slices.SortFunc(s.Bounds[at], func(a, b impl.Sym) int { return 10000*(a.V-b.V) + a.C - b.C })
				})
			}
			for at := range 4 {
				got := wantShift(t, segSize, segLen, place(at), v, one.c)
				if len(got.Bounds) != 4 || slices.Contains(got.Bounds[at], sym(v, one.from-one.c)) != one.stays || len(allTerms(got)) > 5 || one.stays != (len(allTerms(got)) == 5) {
					t.Fatalf("%v by %d in %d: %v", term, one.c, at, got)
				}
			}
			alone := changed(place(1), func(s *impl.Seg) { s.Bounds[1] = []impl.Sym{term} })
			want := changed(alone, func(s *impl.Seg) { s.Bounds[1][0].C -= one.c })
			if !one.stays {
				want = seg(t, "{0} 1..2 {888} 3..3 {len(a)}")
			}
			wantSeg(t, wantShift(t, segSize, segLen, alone, v, one.c), want, term, one.c)
		}
	}
	// Of several in a bound those at one end go, and the others keep their order.
	wide := seg(t, "{0} 1..1 {i - 1000, i - 999, i, i + 999, i + 1000} 2..2 {len(a)}")
	for c, want := range map[int]string{
		0: "{i - 1000, i - 999, i, i + 999, i + 1000}", 1: "{i - 1000, i - 1, i + 998, i + 999}", -1: "{i - 999, i - 998, i + 1, i + 1000}", 2: "{i - 2, i + 997, i + 998}", -2: "{i - 998, i - 997, i + 2}",
		1000: "{i - 1000, i - 1, i}", 1001: "{i - 2, i - 1}", 1999: "{i - 1000, i - 999}", 2000: "{i - 1000}", -2000: "{i + 1000}", -1000: "{i, i + 1, i + 1000}",
	} {
		wantMovedText(t, want, wantShift(t, segSize, segLen, wide, 1, c), "{0} 1..1 "+want+" 2..2 {len(a)}")
	}
	for _, c := range []int{2001, -2001, 3000, gap, -gap, bound, -bound} {
		wantMovedText(t, "all go", wantShift(t, segSize, segLen, wide, 1, c), "{0} 1..2 {len(a)}")
	}
}

// Back again comes what was there, as long as nothing went.
func TestShiftsBack(t *testing.T) {
	for _, s := range okRows(t) {
		for _, v := range []int{1, 2, 4} {
			for _, c := range []int{-gap, -2000, -1001, -1000, -1, 0, 1, 3, 1000, 1001, 2000, gap} {
				there := wantShift(t, segSize, segLen, s, v, c)
				back := wantShift(t, segSize, segLen, there, v, -c)
				if len(allTerms(there)) == len(allTerms(s)) {
					wantSeg(t, back, s, v, c)
				}
				if !impl.SegLeq(segSize, segLen, s, back) {
					t.Fatalf("%v by %d and back: %v", s, c, back)
				}
			}
		}
	}
}

func TestSegCopy(t *testing.T) {
	row := "{0, i - 1, i} 1..1 {1, i + 1, j} 3..3 ? {i + 5} 5..5 ? {j + 2} 7..7 or unwritten {i + 9, len(a), len(b)}"
	for _, one := range []struct {
		text    string
		v, w, c int
		want    string
	}{
		// Terms of w in several bounds, several in one, and none.
		{row, 2, 1, 0, "{0, i - 1, i, j - 1, j} 1..1 {1, i + 1, j + 1} 3..3 ? {i + 5, j + 5} 5..7 or unwritten {i + 9, j + 9, len(a), len(b)}"},
		{row, 2, 1, 1, "{0, i - 1, i, j - 2, j - 1} 1..1 {1, i + 1, j} 3..3 ? {i + 5, j + 4} 5..7 or unwritten {i + 9, j + 8, len(a), len(b)}"},
		{row, 2, 1, -1, "{0, i - 1, i, j, j + 1} 1..1 {1, i + 1, j + 2} 3..3 ? {i + 5, j + 6} 5..7 or unwritten {i + 9, j + 10, len(a), len(b)}"},
		{row, 1, 2, 0, "{0} 1..1 {1, i, j} 3..5 ? {i + 2, j + 2} 7..7 or unwritten {len(a), len(b)}"},
		{row, 1, 2, -3, "{0} 1..1 {1, i + 3, j} 3..5 ? {i + 5, j + 2} 7..7 or unwritten {len(a), len(b)}"},
		{row, 4, 1, 0, "{0, i - 1, i, len(b) - 1, len(b)} 1..1 {1, i + 1, j, len(b) + 1} 3..3 ? {i + 5, len(b) + 5} 5..5 ? {j + 2} 7..7 or unwritten {i + 9, len(a), len(b) + 9}"},
		{"{0, i} 1..1 {len(a)}", 1, 2, 0, "{0} 1..1 {len(a)}"},
		{"{0} 1..1 {i} 2..2 {len(a)}", 1, 4, 5, "{0} 1..2 {len(a)}"},
		{"{0} 1..1 {len(a)}", 1, 2, 0, "{0} 1..1 {len(a)}"},
		{"{0} 1..1 {j} 2..2 {len(a)}", 1, 4, 0, "{0} 1..1 {j} 2..2 {len(a)}"},
		// Numbers.
		{row, 2, 0, 0, "{0, i - 1, i, j} 1..1 {1, i + 1, j + 1} 3..3 ? {i + 5} 5..7 or unwritten {i + 9, len(a), len(b)}"},
		{row, 1, 0, 4, "{0, i - 4} 1..1 {1, i - 3, j} 3..5 ? {j + 2} 7..7 or unwritten {len(a), len(b)}"},
		{"{0} 1..1 {len(a)}", 1, 0, 0, "{0, i} 1..1 {len(a)}"},
		{"{0} 1..1 {len(a)}", 4, 0, 60, "{0, len(b) - 60} 1..1 {len(a)}"},
		{"{-2, 0, 7} 1..1 {60, len(a)}", 1, 0, 7, "{-2, 0, 7, i - 9, i - 7, i} 1..1 {60, i + 53, len(a)}"},
		// The length.
		{row, 2, 3, 0, "{0, i - 1, i} 1..1 {1, i + 1} 3..3 ? {i + 5} 5..7 or unwritten {i + 9, j, len(a), len(b)}"},
		{row, 1, 3, -1, "{0} 1..1 {1, j} 3..5 ? {j + 2} 7..7 or unwritten {i + 1, len(a), len(b)}"},
		{"{0} 1..1 {len(a) - 1} 2..2 {len(a), len(a) + 3}", 4, 3, 1, "{0} 1..1 {len(a) - 1, len(b) - 2} 2..2 {len(a), len(a) + 3, len(b) - 1, len(b) + 2}"},
		{"{0, len(a)}", 1, 3, 2, "{0, i - 2, len(a)}"},
		{"{0, len(a)}", 1, 0, 2, "{0, i - 2, len(a)}"},
		// The other length.
		{row, 2, 4, 6, "{0, i - 1, i} 1..1 {1, i + 1} 3..3 ? {i + 5} 5..7 or unwritten {i + 9, j - 6, len(a), len(b)}"},
		// Terms of v that stood there ahead, also where the same one comes again,
		// in the same bound and in another one.
		{"{0, i} 1..1 {len(a)}", 1, 0, 0, "{0, i} 1..1 {len(a)}"},
		{"{0} 1..1 {i} 2..2 {j} 3..3 {len(a)}", 1, 2, 0, "{0} 1..2 {i, j} 3..3 {len(a)}"},
		{"{0} 1..1 {j} 2..2 {i} 3..3 {len(a)}", 1, 2, 0, "{0} 1..1 {i, j} 2..3 {len(a)}"},
		{"{0} 1..1 {i, j} 2..2 {len(a)}", 1, 2, 1, "{0} 1..1 {i - 1, j} 2..2 {len(a)}"},
		{"{0, i} 1..1 {i + 1} 2..2 {i + 2, len(a)}", 1, 3, 0, "{0} 1..2 {i, len(a)}"},
		{"{0, i} 1..1 {i + 1} 2..2 {i + 2, len(a)}", 1, 0, 2, "{0, i - 2} 1..2 {len(a)}"},
	} {
		wantMovedText(t, one.text, wantCopy(t, segSize, segLen, seg(t, one.text), one.v, one.w, one.c), one.want)
	}
}

// m - c just at MaxOff, and one past it, on both sides; one that is past it does
// not keep those behind it out.
func TestCopiesAtMaxOff(t *testing.T) {
	for _, one := range []struct {
		from, c int
		comes   bool
	}{
		{0, 1000, true}, {0, 1001, false}, {0, -1000, true}, {0, -1001, false}, {1000, 0, true}, {1000, -1, false}, {1000, 2000, true}, {1000, 2001, false}, {-1000, 0, true}, {-1000, 1, false}, {-1000, -2000, true}, {-1000, -2001, false},
		{7, 1007, true}, {7, 1008, false}, {7, -993, true}, {7, -994, false}, {0, gap, false}, {0, -gap, false}, {1000, gap, false}, {-1000, -gap, false}, {1000, -gap, false}, {-1000, gap, false},
	} {
		for v := range segSize {
			for w := range segSize {
				if v == 0 || v == segLen || v == w {
					continue
				}
				for at := range 4 {
					if w == 0 && one.from == 0 && at > 0 || w == segLen && one.from == 0 && at < 3 {
						continue
					}
					// Terms that are neither of v nor of w stand in all bounds.
					other := 7 - v - w
					if w == 0 || w == segLen {
						other = []int{0, 2, 4, 0, 1}[v]
					}
					s := impl.Seg{Bounds: [][]impl.Sym{{sym(0, 0)}, nil, nil, {sym(segLen, 0)}}, Vals: []impl.Val{{}, {}, {}}, Maybe: make([]bool, 3)}
					for place := range s.Bounds {
						s.Bounds[place] = append(s.Bounds[place], sym(other, place))
						if place == at && !slices.Contains(s.Bounds[place], sym(w, one.from)) {
							s.Bounds[place] = append(s.Bounds[place], sym(w, one.from))
						}
						slices.SortFunc(s.Bounds[place], func(a, b impl.Sym) int { return 10000*(a.V-b.V) + a.C - b.C })
					}
					got := wantCopy(t, segSize, segLen, s, v, w, one.c)
					if slices.Contains(got.Bounds[at], sym(v, one.from-one.c)) != one.comes {
						t.Fatalf("%d = %d + %d: %v: %v", v, w, one.c, s, got)
					}
				}
			}
		}
	}
	wide := seg(t, "{0} 1..1 {j - 1000, j - 999, j, j + 999, j + 1000} 2..2 {j + 1, len(a)}")
	for c, want := range map[int]string{
		1:    "{0} 1..1 {i - 1000, i - 1, i + 998, i + 999, j - 1000, j - 999, j, j + 999, j + 1000} 2..2 {i, j + 1, len(a)}",
		-1:   "{0} 1..1 {i - 999, i - 998, i + 1, i + 1000, j - 1000, j - 999, j, j + 999, j + 1000} 2..2 {i + 2, j + 1, len(a)}",
		2000: "{0} 1..1 {i - 1000, j - 1000, j - 999, j, j + 999, j + 1000} 2..2 {j + 1, len(a)}",
		2001: "{0} 1..1 {j - 1000, j - 999, j, j + 999, j + 1000} 2..2 {j + 1, len(a)}",
		1001: "{0} 1..1 {i - 2, i - 1, j - 1000, j - 999, j, j + 999, j + 1000} 2..2 {i - 1000, j + 1, len(a)}",
		1002: "{0} 1..1 {i - 3, i - 2, j - 1000, j - 999, j, j + 999, j + 1000} 2..2 {j + 1, len(a)}",
		gap:  "{0} 1..1 {j - 1000, j - 999, j, j + 999, j + 1000} 2..2 {j + 1, len(a)}",
		-gap: "{0} 1..1 {j - 1000, j - 999, j, j + 999, j + 1000} 2..2 {j + 1, len(a)}",
	} {
		wantMovedText(t, "wide", wantCopy(t, segSize, segLen, wide, 1, 2, c), want)
	}
}

// rowWith: three bounds of terms of symbol w, as many as are told in each, and
// of symbol v, as many as are told in the first one.
func rowWith(w int, counts [3]int, v, others int) impl.Seg {
	s := impl.Seg{Bounds: [][]impl.Sym{{sym(0, 0)}, nil, {sym(segLen, 0)}}, Vals: []impl.Val{sure(span(1, 1)), sure(span(2, 2))}, Maybe: []bool{false, true}}
	num := 0
	for at, count := range counts {
		for range count {
			num++
			s.Bounds[at] = append(s.Bounds[at], sym(w, num))
		}
	}
	for place := range others {
		s.Bounds[0] = append(s.Bounds[0], sym(v, place-500))
	}
	for _, bound := range s.Bounds {
		slices.SortFunc(bound, func(a, b impl.Sym) int { return 10000*(a.V-b.V) + a.C - b.C })
	}
	return s
}

// Just MaxTerms terms behind it, and more that would come than may: those of the
// first bounds, and of these the first ones, are added.
func TestCopiesOfManyTerms(t *testing.T) {
	for _, one := range []struct {
		counts [3]int
		others int
		want   [3]int
	}{
		{[3]int{6, 6, 6}, 0, [3]int{6, 6, 6}},
		{[3]int{6, 7, 6}, 0, [3]int{6, 7, 6}},
		{[3]int{7, 7, 6}, 0, [3]int{7, 7, 4}},
		{[3]int{6, 6, 8}, 0, [3]int{6, 6, 6}},
		{[3]int{10, 10, 10}, 0, [3]int{8, 0, 0}},
		{[3]int{1, 10, 19}, 0, [3]int{1, 7, 0}},
		{[3]int{0, 1, 36}, 0, [3]int{0, 1, 0}},
		{[3]int{0, 36, 0}, 0, [3]int{0, 2, 0}},
		{[3]int{1, 1, 35}, 0, [3]int{1, 0, 0}},
		{[3]int{36, 1, 0}, 0, [3]int{1, 0, 0}},
		{[3]int{12, 13, 13}, 0, [3]int{0, 0, 0}},
		{[3]int{0, 38, 0}, 0, [3]int{0, 0, 0}},
		{[3]int{19, 1, 0}, 0, [3]int{18, 0, 0}},
		// Those of v that go make room.
		{[3]int{9, 10, 9}, 10, [3]int{9, 1, 0}},
		{[3]int{0, 1, 0}, 37, [3]int{0, 1, 0}},
		{[3]int{6, 7, 6}, 19, [3]int{6, 7, 6}},
		{[3]int{6, 7, 7}, 18, [3]int{6, 7, 5}},
		{[3]int{12, 12, 13}, 1, [3]int{1, 0, 0}},
	} {
		for _, pair := range [][2]int{{1, 2}, {2, 1}, {4, 1}, {1, 4}, {2, 4}, {4, 2}, {1, 3}, {4, 3}, {1, 0}, {4, 0}} {
			v, w := pair[0], pair[1]
			for _, c := range []int{0, 5, -5} {
				s := rowWith(w, one.counts, v, one.others)
				got := wantCopy(t, segSize, segLen, s, v, w, c)
				// Of the numbers 0 is one more, of the length's terms the last one.
				if w == 0 || w == segLen {
					continue
				}
				num := 0
				for at, count := range one.want {
					var want []impl.Sym
					for place := range count {
						want = append(want, sym(v, num+place+1-c))
					}
					num += one.counts[at]
					if in := slices.DeleteFunc(slices.Clone(got.Bounds[at]), func(term impl.Sym) bool { return term.V != v }); !slices.Equal(in, want) {
						t.Fatalf("%v, %d: %v in bound %d, want %v", one, one.others, in, at, want)
					}
				}
			}
		}
	}
	// Terms that may not stand take no room.
	for far := range 6 {
		s := rowWith(2, [3]int{10, 5, 14}, 1, 0)
		got := wantCopy(t, segSize, segLen, s, 1, 2, -1000+far)
		if count := len(termsWith(got, 1)); count != far || far > 0 && !slices.Contains(got.Bounds[0], sym(1, 1000)) {
			t.Fatalf("%d: %v", far, got)
		}
		got = wantCopy(t, segSize, segLen, s, 1, 2, 1002+far)
		if count := len(termsWith(got, 1)); count != 9 || far == 0 && !slices.Contains(got.Bounds[0], sym(1, -1000)) || far > 0 && slices.Contains(got.Bounds[0], sym(1, -1001)) {
			t.Fatalf("%d: %v", far, got)
		}
	}
	for _, s := range okRows(t) {
		for v := range segSize {
			for w := range segSize {
				for _, c := range []int{-1000, -30, -1, 0, 1, 30, 1000} {
					if canMove(segSize, segLen, v, w, c) {
						wantCopy(t, segSize, segLen, s, v, w, c)
					}
				}
			}
		}
	}
}

// All that v, w and c may be, and what they may not.
func TestWrongAssignments(t *testing.T) {
	many := append(manyInts(), 3, 4, 5, 6)
	for _, text := range []string{"{0, i} 1..1 {1, i + 1, j} 2..2 ? {len(a), len(b)}", "{0, len(a)}", "{0} 1..1 {len(a)}"} {
		s := seg(t, text)
		for _, v := range many {
			if canMove(segSize, segLen, v, 0, 0) {
				wantForget(t, segSize, segLen, s, v)
			} else {
				wantNoMove(t, segSize, segLen, s, v, 0, 0)
				wantNoMove(t, segSize, segLen, s, v, 1, 1)
				wantNoMove(t, segSize, segLen, s, v, 2, -1)
			}
			for _, c := range many {
				if canMove(segSize, segLen, v, 0, c) {
					wantShift(t, segSize, segLen, s, v, c)
				} else if got := impl.SegShift(segSize, segLen, s, v, c); !isNoSeg(got) {
					t.Fatalf("%s: %d by %d: %v", text, v, c, got)
				}
				for _, w := range many {
					if canMove(segSize, segLen, v, w, c) {
						wantCopy(t, segSize, segLen, s, v, w, c)
					} else if got := impl.SegCopy(segSize, segLen, s, v, w, c); !isNoSeg(got) {
						t.Fatalf("%s: %d = %d + %d: %v", text, v, w, c, got)
					}
				}
			}
		}
	}
	s := seg(t, "{0, i} 1..1 {len(a), len(b)}")
	for _, one := range []struct {
		v, w, c            int
		forget, shift, cop bool
	}{
		{1, 2, 0, true, true, true}, {2, 1, 0, true, true, true}, {4, 3, 0, true, true, true}, {4, 0, 0, true, true, true}, {1, 4, 0, true, true, true},
		{0, 1, 0, false, false, false}, {3, 1, 0, false, false, false}, {5, 1, 0, false, false, false}, {-1, 1, 0, false, false, false}, {math.MaxInt, 1, 0, false, false, false}, {math.MinInt, 1, 0, false, false, false},
		{1, 1, 0, true, true, false}, {4, 4, 0, true, true, false}, {1, 5, 0, true, true, false}, {1, -1, 0, true, true, false}, {1, math.MaxInt, 0, true, true, false}, {1, math.MinInt, 0, true, true, false},
		{1, 0, gap, true, true, true}, {1, 0, -gap, true, true, true}, {1, 0, gap + 1, true, false, false}, {1, 0, -gap - 1, true, false, false}, {1, 0, math.MaxInt, true, false, false}, {1, 0, math.MinInt, true, false, false},
	} {
		forget, shift, cop := impl.SegForget(segSize, segLen, s, one.v), impl.SegShift(segSize, segLen, s, one.v, one.c), impl.SegCopy(segSize, segLen, s, one.v, one.w, one.c)
		if isNoSeg(forget) == one.forget || isNoSeg(shift) == one.shift || isNoSeg(cop) == one.cop {
			t.Fatalf("%v: %v, %v, %v", one, forget, shift, cop)
		}
	}
}

func TestAssignmentsUnderWrongSegs(t *testing.T) {
	for _, s := range wrongSegs(t) {
		wantSegOk(t, segSize, segLen, s, false)
		for _, v := range []int{-1, 0, 1, 2, 3, 4, 5, math.MaxInt} {
			for _, w := range []int{-1, 0, 1, 2, 3, 4, 5} {
				for _, c := range []int{math.MinInt, -gap, -1, 0, 1, gap, math.MaxInt} {
					wantNoMove(t, segSize, segLen, s, v, w, c)
				}
			}
		}
	}
}

// Size and length at either end and one past each.
func TestSizesOfAssignments(t *testing.T) {
	sizes := append(manyInts(), 3, 4, 5, 6, 7, 8, 9, 10)
	for _, size := range sizes {
		for _, l := range append(sizes, size-1, size, size+1) {
			one := impl.Seg{Bounds: [][]impl.Sym{{sym(0, 0), sym(l, 0)}}}
			two := impl.Seg{Bounds: [][]impl.Sym{{sym(0, 0)}, {sym(l, 0)}}, Vals: []impl.Val{sure(span(1, 2))}, Maybe: []bool{false}}
			isRight := size >= 2 && size <= 13 && l >= 1 && l < size
			for _, s := range []impl.Seg{one, two} {
				for _, v := range []int{-1, 0, 1, 2, 11, 12, 13, 14, size - 1, size, l} {
					for _, w := range []int{0, 1, 12, size - 1, size, l} {
						switch {
						case !isRight:
							wantNoMove(t, size, l, s, v, w, 1)
						case canMove(size, l, v, w, 1):
							wantForget(t, size, l, s, v)
							wantShift(t, size, l, s, v, 1)
							wantCopy(t, size, l, s, v, w, 1)
						case !isNoSeg(impl.SegCopy(size, l, s, v, w, 1)):
							t.Fatal(size, l, s, v, w)
						}
					}
				}
			}
		}
	}
	// With two symbols there is none that could get another number.
	two := impl.SegTop(2, 1, sure(span(1, 2)))
	for v := -1; v <= 3; v++ {
		wantNoMove(t, 2, 1, two, v, 0, 0)
	}
	// A Seg that is ok, but of another length, or with a symbol too many.
	s := seg(t, "{0, len(b)} 1..1 {i} 2..2 {len(a)}")
	wantForget(t, 5, 3, s, 1)
	for _, one := range [][2]int{{5, 4}, {5, 2}, {5, 1}, {5, 0}, {4, 3}, {3, 3}, {5, 5}} {
		wantNoMove(t, one[0], one[1], s, 1, 0, 0)
		wantNoMove(t, one[0], one[1], s, 2, 1, 1)
	}
	wantMovedText(t, "of the other length", impl.SegCopy(6, 3, s, 5, 1, 0), "")
	wantSeg(t, wantCopy(t, 6, 3, s, 5, 1, 0), changed(s, func(s *impl.Seg) { s.Bounds[1] = append(s.Bounds[1], sym(5, 0)) }))
}

// farState: a state of so many symbols, of which some are so far from the cells
// that their terms stand close to MaxOff.
func farState(next func(int) int, size, l int) stateOf {
	s := someState(next, size, l)
	for at := 1; at < size; at++ {
		if at != l && next(3) == 0 {
			s.vals[at] = []int{-990, 990, -980, 995, -993, 500}[next(6)] + next(3)
		}
	}
	return s
}

// after: the state in which symbol v has another number.
func (s stateOf) after(v, num int) stateOf {
	vals := slices.Clone(s.vals)
	vals[v] = num
	return stateOf{vals, s.cells}
}

// keepsStates: promise 11: of the states that a Seg has those that come of them
// are had behind each of the three assignments. It tells how many were, and how
// many were not since the new number is past the bounds.
func keepsStates(t *testing.T, size, l int, s impl.Seg, v, w, c int, states []stateOf) (int, int) {
	t.Helper()
	forget, shift, cop := wantForget(t, size, l, s, v), wantShift(t, size, l, s, v, c), wantCopy(t, size, l, s, v, w, c)
	had, past := 0, 0
	for _, one := range states {
		if !impl.SegHas(size, l, s, one.vals, one.cells) {
			continue
		}
		for _, step := range []struct {
			name string
			seg  impl.Seg
			num  int
		}{
			{"forget", forget, one.vals[v] + c}, {"forget", forget, one.vals[w]}, {"forget", forget, -bound}, {"forget", forget, bound}, {"forget", forget, bound + 1},
			{"shift", shift, one.vals[v] + c}, {"copy", cop, one.vals[w] + c},
		} {
			after := one.after(v, step.num)
			has := impl.SegHas(size, l, step.seg, after.vals, after.cells)
			if isPast := step.num < -bound || step.num > bound; has == isPast {
				t.Fatalf("%s %d, %d, %d: %v has %v, and %v behind: %v: %v", step.name, v, w, c, s, one, step.seg, after, has)
			} else if isPast {
				past++
				continue
			}
			had++
		}
	}
	return had, past
}

// Promise 11: over many rows with many terms, near and far, and many states.
func TestRowsHaveTheirStatesBehindAssignments(t *testing.T) {
	next := draws(1112)
	had, past, went, came, full := 0, 0, 0, 0, 0
	for range 4000 {
		size := 3 + next(11)
		l := 1 + next(size-1)
		state := farState(next, size, l)
		s := someRowAround(next, l, state)
		if wantSegOk(t, size, l, s, true); !isSoByCells(size, l, s, state.vals, state.cells) {
			t.Fatalf("%v is not made around %v", s, state)
		}
		states := []stateOf{state, someState(next, size, l)}
		for len(states) < 10 {
			states = append(states, states[next(len(states))].near(next, l))
		}
		for range 3 {
			v, w := 1+next(size-1), next(size)
			c := []int{0, 1, -1, next(9) - 4, next(2001) - 1000, 1000 - next(30), next(30) - 1000, 1990 + next(20), -1990 - next(20), gap, -gap, bound - next(9), next(9) - bound}[next(13)]
			if !canMove(size, l, v, w, c) {
				continue
			}
			some, none := keepsStates(t, size, l, s, v, w, c, states)
			had, past = had+some, past+none
			went += len(termsWith(s, v)) - len(termsWith(impl.SegShift(size, l, s, v, c), v))
			behind := impl.SegCopy(size, l, s, v, w, c)
			came += len(termsWith(behind, v))
			if len(allTerms(behind)) == 40 {
				full++
			}
		}
	}
	if had < 60000 || past < 10000 || went < 3000 || came < 5000 || full < 10 {
		t.Fatalf("%d states were had, %d numbers past the bounds, %d terms went, %d came, %d rows are full", had, past, went, came, full)
	}
}

// Promise 11: of all small rows, in all small states.
func TestSmallRowsBehindAssignments(t *testing.T) {
	var states []stateOf
	for _, list := range cellRows(cellsOver([]int{1}), 3) {
		for i := -1; i <= 4; i++ {
			states = append(states, stateOf{[]int{0, i, len(list)}, list})
		}
	}
	vals := []impl.Val{noCell(), sure(span(1, 1)), unsure(noRange())}
	had := 0
	for _, bounds := range smallBounds() {
		for at, s := range smallRows(bounds, vals) {
			if len(bounds) == 4 && at%5 > 0 {
				continue
			}
			for _, w := range []int{0, 2} {
				c := at%7 - 3
				some, _ := keepsStates(t, 3, 2, s, 1, w, c, states)
				had += some
			}
		}
	}
	if had < 15000 {
		t.Fatalf("only %d states are had", had)
	}
}

// What is told behind a shift is all that was told: a state that is had there
// was had ahead, as long as no term went. Behind a copy v is what it became.
func TestAssignmentsTellWhatTheyCan(t *testing.T) {
	next := draws(121)
	lost, apart := 0, 0
	for range 3000 {
		size := 3 + next(6)
		l := 1 + next(size-1)
		state := someState(next, size, l)
		s := someRowAround(next, l, state)
		v, w, c := 1+next(size-1), next(size), next(9)-4
		if !canMove(size, l, v, w, c) {
			continue
		}
		shift, cop := impl.SegShift(size, l, s, v, c), impl.SegCopy(size, l, s, v, w, c)
		for range 6 {
			state = state.near(next, l)
			if after := state.after(v, state.vals[v]+c); impl.SegHas(size, l, s, state.vals, state.cells) != impl.SegHas(size, l, shift, after.vals, after.cells) {
				t.Fatalf("%v by %d: %v and %v", s, c, state, shift)
			} else if !impl.SegHas(size, l, s, state.vals, state.cells) {
				lost++
			}
		}
		if len(termsWith(cop, v)) == 0 {
			continue
		}
		for _, num := range []int{-1, 1, 2, 100} {
			if after := state.after(v, state.vals[w]+c+num); impl.SegHas(size, l, cop, after.vals, after.cells) {
				t.Fatalf("%v: %d = %d + %d: %v has %v", s, v, w, c, cop, after)
			}
			apart++
		}
	}
	if lost < 3000 || apart < 1000 {
		t.Fatal(lost, apart)
	}
}

// A Seg that is in another one is so behind the same assignment.
func TestAssignmentsKeepTheOrder(t *testing.T) {
	next := draws(1210)
	for range 1500 {
		size := 3 + next(6)
		l := 1 + next(size-1)
		a := someRowAround(next, l, someState(next, size, l))
		b := looser(next, size, l, a)
		v, w, c := 1+next(size-1), next(size), []int{0, 1, -2, 999, -1000, gap}[next(6)]
		if !canMove(size, l, v, w, c) || len(allTerms(a)) > 20 {
			continue
		}
		for name, pair := range map[string][2]impl.Seg{
			"forget": {impl.SegForget(size, l, a, v), impl.SegForget(size, l, b, v)},
			"shift":  {impl.SegShift(size, l, a, v, c), impl.SegShift(size, l, b, v, c)},
			"copy":   {impl.SegCopy(size, l, a, v, w, c), impl.SegCopy(size, l, b, v, w, c)},
		} {
			if !impl.SegLeq(size, l, pair[0], pair[1]) {
				t.Fatalf("%s %d, %d, %d: %v is in %v, but %v is not in %v", name, v, w, c, a, b, pair[0], pair[1])
			}
		}
	}
}

// Rows whose bounds stand in any order, with terms as many as may be.
func TestShuffledRowsMoved(t *testing.T) {
	next := draws(12012)
	full, went := 0, 0
	for range 5000 {
		s := shuffled(next, segLen)
		v, w := []int{1, 1, 2, 4}[next(4)], next(segSize)
		c := []int{0, 1, -1, next(300) - 150, -900 + next(160), 1100 + next(60), gap, -gap}[next(8)]
		wantForget(t, segSize, segLen, s, v)
		went += len(allTerms(s)) - len(allTerms(wantShift(t, segSize, segLen, s, v, c)))
		if w != v && len(allTerms(wantCopy(t, segSize, segLen, s, v, w, c))) == 40 {
			full++
		}
	}
	if full < 300 || went < 3000 {
		t.Fatalf("%d rows are full, %d terms went", full, went)
	}
}

// The steps of programs that run: of a row around the state ahead of an EgSet or
// an EgRead the state behind is had, when the symbol is moved as the edge does.
func TestAssignmentsAlongRuns(t *testing.T) {
	next := draws(1212)
	counts := map[string]int{}
	inputs := []int{3, -1, 2, 0, 5}
	for range 200 {
		n := runProgram(t, next)
		var lens []int
		for _, size := range impl.SizesOf(n) {
			if size < 0 {
				lens = append(lens, next(5))
			}
		}
		g, labels := impl.GraphOf(n), impl.LabelsOf(n)
		c, _ := impl.Begin(n, lens)
		for range 40 {
			ahead := c
			c = impl.Step(n, c, inputs)
			edge := slices.IndexFunc(g.Edges, func(e impl.Edge) bool { return e.From == ahead.Point })
			if c.Trap != 0 || edge < 0 {
				break
			}
			e := g.Edges[edge]
			if e.Kind != impl.EgSet && e.Kind != impl.EgRead {
				continue
			}
			v := 1 + slices.Index(labels, e.Node.Name)
			x, isTerm := impl.Sym{}, false
			if e.Kind == impl.EgSet {
				x, isTerm = impl.SymOf(n, e.Node.Kids[0])
			}
			for k, list := range ahead.Cells {
				size, l := 1+len(labels), 1+len(ahead.Vars)+k
				s := someRowAround(next, l, stateOf{valsOf(ahead), list})
				if !impl.SegOk(size, l, s) {
					continue
				}
				way, behind := "forget", impl.SegForget(size, l, s, v)
				switch {
				case isTerm && x.V == v:
					way, behind = "shift", impl.SegShift(size, l, s, v, x.C)
				case isTerm:
					way, behind = "copy", impl.SegCopy(size, l, s, v, x.V, x.C)
				}
				counts[way]++
				if !impl.SegHas(size, l, s, valsOf(ahead), list) || !impl.SegHas(size, l, behind, valsOf(c), c.Cells[k]) {
					t.Fatalf("%s: %v has not %v", way, behind, c)
				}
			}
		}
	}
	if counts["forget"] < 50 || counts["shift"] < 50 || counts["copy"] < 50 {
		t.Fatal(counts)
	}
}

// Every answer is new memory, no two lists of one share any, nothing is written
// into an argument nor behind it, and what is behind it is not read.
func TestMovedArgumentsAreKept(t *testing.T) {
	list := append(okRows(t), rowWith(2, [3]int{10, 10, 10}, 1, 5), rowWith(1, [3]int{0, 38, 0}, 2, 0))
	for _, one := range list {
		s := roomy(one)
		terms1, vals1, maybe1 := behind(s)
		for _, v := range []int{1, 2, 4} {
			for range 2 {
				got := impl.SegForget(segSize, segLen, s, v)
				wantSeg(t, got, forgetByPlaces(segLen, one, v), one, v)
				wipeSeg(t, got)
				for _, c := range []int{0, 1, -3, 1000, 1001, -2000, gap} {
					got = impl.SegShift(segSize, segLen, s, v, c)
					wantSeg(t, got, shiftByPlaces(segLen, one, v, c), one, v, c)
					wipeSeg(t, got)
					for w := range segSize {
						if w != v {
							got = impl.SegCopy(segSize, segLen, s, v, w, c)
							wantSeg(t, got, copyByPlaces(segLen, one, v, w, c), one, v, w, c)
							wipeSeg(t, got)
						}
					}
				}
			}
		}
		terms2, vals2, maybe2 := behind(s)
		if !sameSeg(s, one) || !slices.Equal(terms1, terms2) || !slices.Equal(vals1, vals2) || !slices.Equal(maybe1, maybe2) {
			t.Fatalf("%v has become %v", one, s)
		}
	}
}

// What bounds share in an argument they do not share in an answer.
func TestSharedBoundsAreMoved(t *testing.T) {
	all := []impl.Sym{sym(0, 0), sym(0, 1), sym(1, 0), sym(1, 4), sym(3, 0)}
	before := slices.Clone(all)
	s := impl.Seg{Bounds: [][]impl.Sym{all[:2], all[2:3], all[3:]}, Vals: []impl.Val{{}, {}}, Maybe: []bool{true, true}}
	for range 2 {
		wipeSeg(t, wantForget(t, segSize, segLen, s, 1))
		wipeSeg(t, wantShift(t, segSize, segLen, s, 1, 1))
		wipeSeg(t, wantShift(t, segSize, segLen, s, 2, 1))
		wipeSeg(t, wantCopy(t, segSize, segLen, s, 1, 0, 1))
		wipeSeg(t, wantCopy(t, segSize, segLen, s, 2, 1, 1))
		wipeSeg(t, wantCopy(t, segSize, segLen, s, 4, 3, 1))
		if !slices.Equal(all, before) {
			t.Fatalf("%v has become %v", before, all)
		}
	}
}
