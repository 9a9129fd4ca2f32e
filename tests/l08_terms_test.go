package tests

import (
	"math"
	"slices"
	"strconv"
	"strings"
	"testing"

	"loop.example/g00093/impl"
)

func sym(v, c int) impl.Sym { return impl.Sym{V: v, C: c} }

// manyInts: about 0, about all limits of this chapter, and at the ends of ints.
func manyInts() []int {
	return []int{
		math.MinInt, math.MinInt + 1, -1 << 32, -gap - 1, -gap, -gap + 1, -bound - 1, -bound, -1001, -1000, -999, -13, -2, -1, 0,
		1, 2, 11, 12, 13, 14, 999, 1000, 1001, bound, bound + 1, gap - 1, gap, gap + 1, 1 << 32, math.MaxInt - 1, math.MaxInt,
	}
}

func TestTermConstants(t *testing.T) {
	if impl.MaxOff != 1000 {
		t.Fatal(impl.MaxOff)
	}
}

func TestSymOk(t *testing.T) {
	for _, size := range append(manyInts(), 3, 4, 5, 6, 7, 8, 9, 10) {
		for _, v := range append(manyInts(), size-1, size, size+1) {
			for _, c := range manyInts() {
				want := size >= 1 && size <= 13 && v >= 0 && v < size && c >= -1000 && c <= 1000
				if impl.SymOk(size, sym(v, c)) != want {
					t.Fatalf("%d symbols, %v: want %v", size, sym(v, c), want)
				}
			}
		}
	}
	for _, one := range []struct {
		size, v, c int
		want       bool
	}{
		{1, 0, 0, true}, {1, 1, 0, false}, {1, -1, 0, false}, {13, 12, 0, true}, {13, 13, 0, false}, {14, 0, 0, false}, {14, 13, 0, false}, {0, 0, 0, false}, {-1, 0, 0, false}, {0, -1, 0, false},
		{2, 1, 1000, true}, {2, 1, 1001, false}, {2, 1, -1000, true}, {2, 1, -1001, false}, {2, 0, 1000, true}, {2, 0, -1001, false}, {1, 0, 1000, true}, {13, 0, -1000, true},
	} {
		if impl.SymOk(one.size, sym(one.v, one.c)) != one.want {
			t.Fatal(one)
		}
	}
}

func TestSymLess(t *testing.T) {
	nums := manyInts()
	for i, v := range nums {
		for j, w := range nums {
			for k, c := range nums {
				for m, d := range nums {
					if got, want := impl.SymLess(sym(v, c), sym(w, d)), i < j || i == j && k < m; got != want {
						t.Fatalf("%v %v: %v", sym(v, c), sym(w, d), got)
					}
				}
			}
		}
	}
}

func wantVal(t *testing.T, s impl.Sym, vals []int, want int) {
	t.Helper()
	if got, ok := impl.SymVal(s, vals); got != want || !ok {
		t.Fatalf("%v of %v: %d %v, want %d", s, vals, got, ok, want)
	}
}

func wantNoVal(t *testing.T, s impl.Sym, vals []int) {
	t.Helper()
	if got, ok := impl.SymVal(s, vals); got != 0 || ok {
		t.Fatalf("%v of %v: %d %v", s, vals, got, ok)
	}
}

func TestSymVal(t *testing.T) {
	next := draws(81)
	for size := 1; size <= 13; size++ {
		for range 20 {
			vals := someRow(next, size)
			for _, v := range append(manyInts(), size-1, size) {
				for _, c := range manyInts() {
					if v < 0 || v >= size || c < -gap || c > gap {
						wantNoVal(t, sym(v, c), vals)
						continue
					}
					wantVal(t, sym(v, c), vals, vals[v]+c)
				}
			}
		}
	}
	wantVal(t, sym(0, 0), []int{0}, 0)
	wantVal(t, sym(0, -gap), []int{0}, -gap)
	wantVal(t, sym(1, gap), []int{0, bound}, 3*bound)
	wantVal(t, sym(1, -gap), []int{0, -bound}, -3*bound)
	wantVal(t, sym(12, 5), append(make([]int, 12), -7), -2)
}

func TestValsThatAreNotAsSaid(t *testing.T) {
	for _, vals := range [][]int{
		nil, {}, {1}, {-1}, {1, 0}, {bound}, {math.MinInt}, {0, bound + 1}, {0, -bound - 1}, {0, math.MaxInt}, {0, math.MinInt}, {0, 1, bound + 1}, {0, -bound - 1, 1}, {5, 5, 5},
		make([]int, 14), make([]int, 15), make([]int, 1000), append(make([]int, 12), bound+1),
	} {
		for _, s := range []impl.Sym{{}, sym(0, 5), sym(1, 0), sym(2, -3), sym(12, 0), sym(13, 0), sym(-1, 0), sym(len(vals)-1, 0)} {
			wantNoVal(t, s, vals)
		}
	}
	for _, vals := range [][]int{{0, bound}, {0, -bound}, make([]int, 13), append(make([]int, 12), bound)} {
		wantVal(t, sym(len(vals)-1, 0), vals, vals[len(vals)-1])
	}
}

// wantMost: as the facts that are closed by rounds say it.
func wantMost(t *testing.T, f impl.Facts, a, b impl.Sym) {
	t.Helper()
	closed, want, ok := impl.Facts{}, 0, false
	if impl.FactsOk(f) {
		closed = closedByRounds(f)
	}
	in := func(s impl.Sym) bool { return s.V >= 0 && s.V < closed.Size && s.C >= -gap && s.C <= gap }
	if in(a) && in(b) {
		want, ok = mostAt(closed, a.V, b.V)+a.C-b.C, true
	}
	if got, gotOk := impl.SymMost(f, a, b); got != want || gotOk != ok {
		t.Fatalf("%v: %v less %v is %d %v, want %d %v", f, a, b, got, gotOk, want, ok)
	}
}

func TestSymMost(t *testing.T) {
	chain := putFact(putFact(capsOf(4), 1, 2, 3), 2, 3, -5)
	for _, one := range []struct {
		f    impl.Facts
		a, b impl.Sym
		want int
	}{
		{chain, sym(1, 0), sym(2, 0), 3}, {chain, sym(2, 0), sym(3, 0), -5}, {chain, sym(1, 0), sym(3, 0), -2}, {chain, sym(1, 7), sym(3, 4), 1}, {chain, sym(1, 4), sym(3, 7), -5},
		{chain, sym(3, 0), sym(1, 0), gap}, {chain, sym(3, gap), sym(1, -gap), 3 * gap}, {chain, sym(1, -gap), sym(3, gap), -2 - 2*gap},
		{chain, sym(2, 0), sym(2, 0), 0}, {chain, sym(2, 5), sym(2, 9), -4}, {chain, sym(0, 5), sym(0, 9), -4}, {chain, sym(0, 9), sym(0, 5), 4},
		{chain, sym(2, 1), sym(0, 1), bound - 5}, {chain, sym(0, 1), sym(3, 0), bound - 4}, {capsOf(1), sym(0, 3), sym(0, -3), 6}, {capsOf(2), sym(1, 3), sym(0, -3), bound + 6},
	} {
		if got, ok := impl.SymMost(one.f, one.a, one.b); got != one.want || !ok {
			t.Fatalf("%v: %v less %v is %d %v, want %d", one.f, one.a, one.b, got, ok, one.want)
		}
		wantMost(t, one.f, one.a, one.b)
	}
	terms := []impl.Sym{}
	for _, v := range []int{math.MinInt, -1, 0, 1, 2, 3, 12, 13, 14, math.MaxInt} {
		for _, c := range []int{math.MinInt, -gap - 1, -gap, -4, 0, 3, gap, gap + 1, math.MaxInt} {
			terms = append(terms, sym(v, c))
		}
	}
	for _, f := range append(mixedFacts(), wrongFacts()...) {
		for _, a := range terms {
			for _, b := range terms {
				wantMost(t, f, a, b)
			}
		}
	}
}

func TestMostOfNone(t *testing.T) {
	for _, f := range slices.Concat(someNones(), wrongFacts(), []impl.Facts{{}}) {
		for _, s := range []impl.Sym{{}, sym(1, 0), sym(0, 5), sym(-1, 0), sym(12, 3)} {
			for _, other := range []impl.Sym{s, {}, sym(1, 1)} {
				if got, ok := impl.SymMost(f, s, other); got != 0 || ok {
					t.Fatalf("%v: %v less %v is %d %v", f, s, other, got, ok)
				}
			}
		}
	}
}

// The promise: over rows of which facts are so the most is not less than what
// is; and the facts that are made of just one row tell just that.
func TestMostIsNeverLess(t *testing.T) {
	next := draws(82)
	nums := []int{-gap, -bound, -1001, -3, -1, 0, 1, 2, 1000, bound, gap}
	for range 3000 {
		size := 1 + next(5)
		if next(20) == 0 {
			size = 13
		}
		row := someRow(next, size)
		f := factsAround(next, size, row, someRow(next, size), someRow(next, size))
		just := factsBy(size, func(i, j int) int { return row[i] - row[j] })
		a, b := sym(next(size), nums[next(len(nums))]), sym(next(size), nums[next(len(nums))])
		x, xOk := impl.SymVal(a, row)
		y, yOk := impl.SymVal(b, row)
		most, ok := impl.SymMost(f, a, b)
		if !impl.FactsHas(f, row) || !xOk || !yOk || !ok || most < x-y {
			t.Fatalf("%v has %v: %v less %v is %d, at most %d", f, row, a, b, x-y, most)
		}
		if most, ok := impl.SymMost(just, a, b); !ok || most != x-y {
			t.Fatalf("%v has %v: %v less %v is %d, at most %d", just, row, a, b, x-y, most)
		}
	}
}

func wantTerm(t *testing.T, s impl.Sym, names []string, text string) {
	t.Helper()
	if got := impl.SymText(s, names); got != text {
		t.Fatalf("%v with %q is %q, want %q", s, names, got, text)
	}
	if got, ok := impl.SymRead(text, names); got != s || !ok {
		t.Fatalf("%q with %q is read as %v %v, want %v", text, names, got, ok, s)
	}
}

func wantNoTerm(t *testing.T, text string, names []string) {
	t.Helper()
	if got, ok := impl.SymRead(text, names); got != (impl.Sym{}) || ok {
		t.Fatalf("%q with %q is read as %v %v", text, names, got, ok)
	}
}

func TestSymText(t *testing.T) {
	names := []string{"i", "len(a)", "i2", "lens", "len(i)", "a1234567", "len(b1234567)"}
	for text, s := range map[string]impl.Sym{
		"0": {}, "7": sym(0, 7), "-7": sym(0, -7), "1000": sym(0, 1000), "-1000": sym(0, -1000), "1": sym(0, 1), "-1": sym(0, -1), "10": sym(0, 10),
		"i": sym(1, 0), "i + 1": sym(1, 1), "i - 1": sym(1, -1), "i + 1000": sym(1, 1000), "i - 1000": sym(1, -1000), "i + 10": sym(1, 10), "i - 999": sym(1, -999),
		"len(a)": sym(2, 0), "len(a) + 3": sym(2, 3), "len(a) - 3": sym(2, -3), "len(a) - 1000": sym(2, -1000), "i2": sym(3, 0), "i2 + 2": sym(3, 2), "lens": sym(4, 0), "lens - 7": sym(4, -7),
		"len(i) + 4": sym(5, 4), "a1234567 + 1": sym(6, 1), "a1234567": sym(6, 0), "len(b1234567)": sym(7, 0), "len(b1234567) - 12": sym(7, -12),
	} {
		wantTerm(t, s, names, text)
	}
	wantTerm(t, sym(0, -5), nil, "-5")
	wantTerm(t, sym(0, 0), []string{}, "0")
}

// The promise: a term that is ok is read back, with labels no two of which are
// alike.
func TestTermsAreReadBack(t *testing.T) {
	for count := range 13 {
		names := lettersUpTo(count)
		for i := range names {
			if i%3 == 1 {
				names[i] = "len(" + names[i] + ")"
			}
		}
		for v := -1; v <= count+1; v++ {
			for c := -1002; c <= 1002; c++ {
				s := sym(v, c)
				text := impl.SymText(s, names)
				if (text != "") != impl.SymOk(count+1, s) {
					t.Fatalf("%v with %q is %q", s, names, text)
				}
				if text == "" {
					continue
				}
				if back, ok := impl.SymRead(text, names); back != s || !ok {
					t.Fatalf("%v with %q is %q, and read as %v %v", s, names, text, back, ok)
				}
			}
		}
	}
}

func TestTermsThatAreNotWritten(t *testing.T) {
	for _, v := range manyInts() {
		for _, c := range manyInts() {
			s := sym(v, c)
			if v >= 0 && v <= 2 && c >= -1000 && c <= 1000 {
				continue
			}
			if got := impl.SymText(s, []string{"i", "len(a)"}); got != "" {
				t.Fatalf("%v: %q", s, got)
			}
		}
	}
}

func TestLabelsThatAreAlike(t *testing.T) {
	names := []string{"x", "len(a)", "x", "y", "len(a)", "y"}
	for v, first := range []int{0, 1, 2, 1, 4, 2, 4} {
		for _, c := range []int{-1000, -1, 0, 1, 1000} {
			text := impl.SymText(sym(v, c), names)
			if text == "" || text != impl.SymText(sym(first, c), names) {
				t.Fatalf("%d: %q", v, text)
			}
			if got, ok := impl.SymRead(text, names); got != sym(first, c) || !ok {
				t.Fatalf("%q is read as %v %v", text, got, ok)
			}
		}
	}
}

func TestTextsThatAreNoTerms(t *testing.T) {
	names := []string{"i", "len(a)", "j"}
	for _, text := range []string{
		"", " ", "  ", "+", "-", "- 1", "+1", "+ 1", "-0", "00", "01", "-01", "007", "1 ", " 1", "1.0", "1e2", "0x1", "1_0", "--1", "1001", "-1001", "1000000", "99999999999999999999", "-9223372036854775808", "9223372036854775807",
		"k", "I", "ii", "i ", " i", "i  ", "i+1", "i +1", "i+ 1", "i  + 1", "i +  1", " i + 1", "i + 1 ", "i + 0", "i - 0", "i + 00", "i + 01", "i - 01", "i + -1", "i - -1", "i + +1", "i - +1", "i ++ 1", "i -- 1",
		"i + 1001", "i - 1001", "i + 10000", "i + 18446744073709551617", "i + ", "i - ", "i +", "i -", "i 1", "i -1", "i * 1", "i = 1", "i + j", "i + i", "i + 1 + 1", "i + 1 - 1", "1 + i", "1 + 1", "0 + 1", "0 - 1", "5 5", "-1 + 1",
		"len(a) ", "len(a)+1", "len(a) +1", "len (a)", "len( a)", "len(a )", "len(b)", "len(i)", "len(a", "len", "a", "len(a))", "len(a) + 0", "len(a) + 1001", "len(a) - -1", "Len(a)", "len(a) + len(a)",
		"i\t+ 1", "i\n", "i + 1\n", "i + 1\x00", "\xff", "i + \xff", "i + ١", "i – 1", "i + 1 1", "i+1 1", "i 1 1", "j+", strings.Repeat("i", 100000), "i + " + strings.Repeat("0", 100000) + "1",
	} {
		wantNoTerm(t, text, names)
	}
}

// Each text that is a term's, with one byte more, one fewer, or another one,
// is read as just the term whose text it is, if it is one's.
func TestTextsNearTerms(t *testing.T) {
	names := []string{"i", "len(a)", "ii"}
	written := map[string]impl.Sym{}
	for v := range 4 {
		for c := -1000; c <= 1000; c++ {
			written[impl.SymText(sym(v, c), names)] = sym(v, c)
		}
	}
	if len(written) != 4*2001 {
		t.Fatal(len(written))
	}
	for _, text := range []string{"0", "-7", "10", "1000", "-1000", "i", "i + 1", "i - 10", "i + 999", "len(a)", "len(a) - 1", "len(a) + 1000", "ii", "ii - 1"} {
		for at := range len(text) + 1 {
			near := []string{text[:at]}
			if at < len(text) {
				near = append(near, text[:at]+text[at+1:])
			}
			for _, one := range " +-019il(a)\x00" {
				near = append(near, text[:at]+string(one)+text[at:])
				if at < len(text) {
					near = append(near, text[:at]+string(one)+text[at+1:])
				}
			}
			for _, other := range near {
				want, isTerm := written[other]
				if got, ok := impl.SymRead(other, names); got != want || ok != isTerm {
					t.Fatalf("%q is read as %v %v, want %v %v", other, got, ok, want, isTerm)
				}
			}
		}
	}
}

func TestNamesOfTerms(t *testing.T) {
	for count := range 20 {
		names := lettersUpTo(count)
		for v := range count + 1 {
			if count > 12 {
				if got := impl.SymText(sym(v, 1), names); got != "" {
					t.Fatalf("%d names: %q", count, got)
				}
				wantNoTerm(t, "1", names)
				wantNoTerm(t, "a", names)
				wantNoTerm(t, "b + 1", names)
				continue
			}
			wantTerm(t, sym(v, 0), names, append([]string{"0"}, names...)[v])
		}
	}
	for _, name := range []string{
		"", " ", "X", "1", "-1", "7a", "a b", "a ", " a", "a_b", "é", "\xff", "a1234567b", "a\n", "a + 1", "0", "len", "var", "to", "while", "len(", "len()", "len(a", "len(a))",
		"len(a) ", " len(a)", "len( a)", "len (a)", "len(len)", "len(1)", "len(A)", "len(a1234567b)", "len(len(a))", "len(a)b", "Len(a)", "(a)", "a)", "len(\xff)",
	} {
		for _, names := range [][]string{{name}, {name, "y", "len(z)"}, {"y", name, "len(z)"}, {"y", "len(z)", name}} {
			for v := range len(names) + 1 {
				for _, c := range []int{-1, 0, 1} {
					if got := impl.SymText(sym(v, c), names); got != "" {
						t.Fatalf("%q: %q", names, got)
					}
				}
			}
			for _, text := range []string{"", "0", "-7", "y", "y + 1", "len(z)", name, name + " + 1", name + " - 1", name + " 1", " 1", " + 1"} {
				wantNoTerm(t, text, names)
			}
		}
	}
	if got := impl.SymText(sym(0, 1), make([]string, 100000)); got != "" {
		t.Fatal(got)
	}
	wantNoTerm(t, "1", make([]string, 100000))
}

// wrongPrograms: trees that are no right programs.
func wrongPrograms(t *testing.T) []impl.Node {
	right := tree(t, "var i; array a[3]; i = 1;")
	list := []impl.Node{
		{}, number(1), variable("i"), block(), block(node(impl.StSkip)), node(impl.NdProg), right.Kids[0], right.Kids[2], node(impl.NdProg, right.Kids[0], right.Kids[1]),
		tree(t, "var i; var i; skip;"), tree(t, "var i; array i[3]; skip;"), tree(t, "var i; j = 1;"), tree(t, "var i; array a[3]; a = 1;"), tree(t, "var i; i[0] = 1;"), tree(t, "array a[61]; skip;"),
		tree(t, "var a;var b;var c;var d;var e;var f;var g;var h;var i;"), tree(t, "array a[1];array b[1];array c[1];array d[1];array e[1];"), nested(number(1), 30), nested(right, 3),
	}
	return append(list, spoils(right)...)
}

func TestLabelsOf(t *testing.T) {
	for text, want := range map[string]string{
		"": "", "skip;": "", "var i;": "i", "array a[3];": "len(a)", "var i; array a[?]; skip;": "i len(a)", "array a[?]; var i;": "i len(a)",
		"array b[0]; var j; array a[60]; var i; i = len(b);": "j i len(b) len(a)",
		"array lens[1]; var len1;":                           "len1 len(lens)",
		"var a; var b; var c; var d; var e; var f; var g; var h; array i[1]; array j[1]; array k[?]; array l[?]; read h; l[0] = a;": "a b c d e f g h len(i) len(j) len(k) len(l)",
		"array k[?]; var x1234567; array y1234567[2];":                                                                                 "x1234567 len(k) len(y1234567)",
		"var i; array a[2]; for i from 0 to len(a) { a[i] = 0; }":                                                                      "i len(a)",
		"array d[1]; array c[1]; array b[1]; array a[1]; var h; var g; var f; var e; var d1; var c1; var b1; var a1; if h < g {stop;}": "h g f e d1 c1 b1 a1 len(d) len(c) len(b) len(a)",
	} {
		if got := impl.LabelsOf(tree(t, text)); strings.Join(got, " ") != want || len(got) != len(strings.Fields(want)) {
			t.Fatalf("%s: %q", text, got)
		}
	}
	for i, n := range wrongPrograms(t) {
		if got := impl.LabelsOf(n); len(got) != 0 {
			t.Fatalf("%d: %q", i, got)
		}
	}
}

// The labels are those of SymText, and the symbols are numbered as they are.
func TestLabelsAreSymbols(t *testing.T) {
	next := draws(83)
	for range 100 {
		n := rightProgram(next)
		if impl.Check(n).Code != impl.OK {
			continue
		}
		labels, vars, arrays := impl.LabelsOf(n), impl.VarsOf(n), impl.ArraysOf(n)
		if len(labels) != len(vars)+len(arrays) {
			t.Fatalf("%q of %q and %q", labels, vars, arrays)
		}
		for k, name := range vars {
			wantTerm(t, sym(1+k, 0), labels, name)
			wantTermOf(t, n, name, sym(1+k, 0))
		}
		for k, name := range arrays {
			wantTerm(t, sym(1+len(vars)+k, 0), labels, "len("+name+")")
			wantTermOf(t, n, "len("+name+")", sym(1+len(vars)+k, 0))
		}
	}
}

func wantTermOf(t *testing.T, n impl.Node, text string, want impl.Sym) {
	t.Helper()
	if got, ok := impl.SymOf(n, exprOf(t, text)); got != want || !ok {
		t.Fatalf("%s is %v %v, want %v", text, got, ok, want)
	}
}

func wantNoTermOf(t *testing.T, n, e impl.Node) {
	t.Helper()
	if got, ok := impl.SymOf(n, e); got != (impl.Sym{}) || ok {
		t.Fatalf("%.300v is %v", e, got)
	}
}

const termText = "var i; array a[3]; var j; array b[?]; skip;"

func TestSymOf(t *testing.T) {
	n := tree(t, termText)
	for text, want := range map[string]impl.Sym{
		"0": {}, "7": sym(0, 7), "1000": sym(0, 1000), "i": sym(1, 0), "j": sym(2, 0), "len(a)": sym(3, 0), "len(b)": sym(4, 0),
		"-0": {}, "-7": sym(0, -7), "--7": sym(0, 7), "-1000": sym(0, -1000), "-(i - i)": {}, "-(i + 3 - i)": sym(0, -3), "-(2 * 3)": sym(0, -6),
		"2 + 3": sym(0, 5), "i + 3": sym(1, 3), "3 + i": sym(1, 3), "len(b) + 1": sym(4, 1), "1 + len(b)": sym(4, 1), "i + -3": sym(1, -3), "-3 + i": sym(1, -3), "1 + i + 2": sym(1, 3), "i + (j - j)": sym(1, 0), "j - j + i": sym(1, 0),
		"5 - 7": sym(0, -2), "i - 3": sym(1, -3), "i - -3": sym(1, 3), "i - i": {}, "i + 5 - i": sym(0, 5), "i - (i + 5)": sym(0, -5), "(i + 2) - (i + 7)": sym(0, -5), "len(a) - len(a)": {}, "len(a) - 1": sym(3, -1), "i - (2 - 3)": sym(1, 1), "i - 1 - 1": sym(1, -2), "i - (j - j)": sym(1, 0), "7 - (i - i)": sym(0, 7),
		"2 * 3": sym(0, 6), "0 * 5": {}, "-2 * 3": sym(0, -6), "-2 * -3": sym(0, 6), "(i - i) * 7": {}, "7 * (i - i)": {}, "(i + 2 - i) * (j - (j - 4))": sym(0, 8), "10 * 10 * 10": sym(0, 1000), "25 * 40": sym(0, 1000), "25 * -40": sym(0, -1000),
		"i + 1000": sym(1, 1000), "i - 1000": sym(1, -1000), "1000 + i": sym(1, 1000), "i + 999 + 1": sym(1, 1000), "i + 1000 - 1000": sym(1, 0), "500 + 500": sym(0, 1000), "-500 - 500": sym(0, -1000), "(i + 500) - (i - 500)": sym(0, 1000), "len(b) - 999 - 1": sym(4, -1000), "1000 - 0": sym(0, 1000), "1000 * 1": sym(0, 1000), "0 - 1000": sym(0, -1000),
	} {
		wantTermOf(t, n, text, want)
	}
	for _, text := range []string{
		"-i", "-len(a)", "-(i + 3)", "--i", "-(i - 1)", "i + j", "i + i", "i + len(a)", "len(a) + len(a)", "i + (3 + j)", "i + 3 + j", "i + i - i", "i + j - j", "i + (i - 3)", "i + -i",
		"i - j", "3 - i", "0 - i", "i - len(a)", "len(a) - i", "len(a) - len(b)", "5 - (i - 3)", "i - (j + 3)", "i - -i", "3 - (5 - i)", "i * 1", "1 * i", "0 * i", "i * 0", "i * i", "len(a) * 1", "2 * (i + 1)", "(i - i) * j", "2 * 3 * i",
		"a[0]", "b[i]", "a[0] + 1", "1 + a[0]", "a[0] - a[0]", "a[0] * 0", "-a[0]", "i - i + a[0]", "a[b[0]]",
		"1001", "-1001", "1000000", "1001 - 1", "i + 1001", "1001 + i", "i - 1001", "i + 1000 + 1", "i + 1000 + 1 - 5", "i - 1000 - 1 + 5", "1000 + 1", "-1000 - 1", "999 + 2", "1000 + 1 - 1", "(1000 + 1) * 0", "0 * 1001", "1001 - 1001", "1001 * 0", "100 * 100", "100 * 100 - 9500", "1000 * 1000", "1000000 - 999999", "-(1001)", "i - i + 1001",
		"(i + 1001) - (i + 1000)", "(i + 501) - (i - 500)", "(i - 501) - (i + 500)", "i + 1000 - (0 - 1)", "26 * 40", "26 * -40", "i + 26 * 40", "i + 26 * 40 - 100", "i + (600 + 600 - 600)", "--1001",
		"k", "q", "a", "b", "len(i)", "len(j)", "len(c)", "i[0]", "c[0]", "k - k", "k + 1", "1 + k", "len(c) - len(c)", "-k", "0 * k", "a - a", "a + 0",
	} {
		wantNoTermOf(t, n, exprOf(t, text))
	}
}

func TestTreesThatAreNoTerms(t *testing.T) {
	n, i, one := tree(t, termText), variable("i"), number(1)
	sum := node(impl.ExAdd, i, one)
	for _, e := range []impl.Node{
		{}, n, n.Kids[0], n.Kids[1], node(impl.StSkip), block(), node(impl.CdLess, i, one), node(impl.CdSame, one, one), named(impl.StSet, "i", one), named(impl.StRead, "i"), number(-1), number(1000001), number(-1000), number(math.MinInt), number(math.MaxInt),
		node(impl.ExNeg), node(impl.ExNeg, one, one), node(impl.ExAdd), node(impl.ExAdd, i), node(impl.ExAdd, one), node(impl.ExAdd, i, one, one), node(impl.ExSub, i), node(impl.ExMul, one), node(impl.ExMul, one, one, one),
		named(impl.ExVar, ""), named(impl.ExVar, "i", one), named(impl.ExLen, "a", one), named(impl.ExCell, "a"), named(impl.ExAdd, "i", i, one), named(impl.ExNum, "i"), named(impl.ExNeg, "i", one), node(9), node(-1), node(0, one),
		{Kind: impl.ExVar, Name: "i", Num: 1}, {Kind: impl.ExLen, Name: "a", Num: 3}, {Kind: impl.ExNeg, Num: 1, Kids: []impl.Node{one}}, {Kind: impl.ExAdd, Num: 1, Kids: []impl.Node{i, one}}, {Kind: impl.ExNum, Num: 1, Kids: []impl.Node{one}},
		node(impl.ExNeg, node(impl.CdLess, one, one)), node(impl.ExAdd, one, n), nested(one, 24), nested(one, 1000), node(impl.ExAdd, nested(one, 23), nested(one, 24)), wideExpr(501),
	} {
		wantNoTermOf(t, n, e)
	}
	for _, e := range []impl.Node{i, one, sum, named(impl.ExLen, "a"), node(impl.ExNeg, one)} {
		if _, ok := impl.SymOf(n, e); !ok {
			t.Fatal(e)
		}
		for _, bad := range spoils(e) {
			wantNoTermOf(t, n, bad)
			wantNoTermOf(t, n, node(impl.ExAdd, bad, one))
			wantNoTermOf(t, n, node(impl.ExSub, one, bad))
		}
		for _, wrong := range wrongPrograms(t) {
			wantNoTermOf(t, wrong, e)
		}
	}
	// Some limits that are met.
	if got, ok := impl.SymOf(n, nested(one, 23)); !ok || got != sym(0, -1) {
		t.Fatal(got, ok)
	}
	// A program that declares nothing has its numbers still.
	wantTermOf(t, tree(t, "skip;"), "7 - 9", sym(0, -2))
	wantNoTermOf(t, tree(t, "skip;"), i)
	wantTermOf(t, tree(t, "var i;"), "i + 1", sym(1, 1))
	// That of the empty text is none: its Print is empty.
	wantNoTermOf(t, tree(t, ""), number(0))
	wantTermOf(t, tree(t, "var i; array a[2]; for i from 0 to len(a) { a[i] = 0; }"), "len(a) - 1", sym(2, -1))
}

func TestTermsWithAllSymbols(t *testing.T) {
	n := tree(t, "array i[1]; var a; var b; var c; var d; array j[1]; var e; var f; var g; var h; array k[?]; array l[?]; skip;")
	for v, text := range strings.Fields("a b c d e f g h len(i) len(j) len(k) len(l)") {
		wantTermOf(t, n, text, sym(v+1, 0))
		wantTermOf(t, n, text+" - 1000", sym(v+1, -1000))
		wantTermOf(t, n, "(5 + "+text+") - "+text, sym(0, 5))
	}
}

// A wordTerm reads an expression's words and tells its term from them.
type wordTerm struct {
	words, labels []string
	bad           bool
}

func (r *wordTerm) take() string {
	one := r.words[0]
	r.words = r.words[1:]
	return one
}

func (r *wordTerm) comes(texts string) bool {
	return len(r.words) > 0 && strings.Contains(texts, r.words[0])
}

func (r *wordTerm) keep(v, c int, ok bool) impl.Sym {
	if !ok || c > 1000 || c < -1000 {
		r.bad = true
		return impl.Sym{}
	}
	return sym(v, c)
}

func (r *wordTerm) sum() impl.Sym {
	a := r.product()
	for r.comes("+-") {
		if r.take() == "+" {
			b := r.product()
			a = r.keep(max(a.V, b.V), a.C+b.C, min(a.V, b.V) == 0)
			continue
		}
		b := r.product()
		v := a.V
		if b.V == v {
			v = 0
		}
		a = r.keep(v, a.C-b.C, b.V == 0 || b.V == a.V)
	}
	return a
}

func (r *wordTerm) product() impl.Sym {
	a := r.one()
	for r.comes("*") {
		r.take()
		b := r.one()
		a = r.keep(0, a.C*b.C, a.V+b.V == 0)
	}
	return a
}

func (r *wordTerm) one() impl.Sym {
	word := r.take()
	switch word {
	case "-":
		a := r.one()
		return r.keep(0, -a.C, a.V == 0)
	case "(":
		a := r.sum()
		r.take()
		return a
	case "len":
		word += r.take() + r.take() + r.take()
	}
	if num, err := strconv.Atoi(word); err == nil {
		return r.keep(0, num, true)
	}
	if r.comes("[") {
		r.take()
		r.sum()
		r.take()
		r.bad = true
		return impl.Sym{}
	}
	at := slices.Index(r.labels, word)
	return r.keep(at+1, 0, at >= 0)
}

func termByWords(labels []string, e impl.Node) (impl.Sym, bool) {
	list, _ := impl.Words(impl.ExprText(e))
	r := wordTerm{labels: labels}
	for _, one := range list {
		r.words = append(r.words, one.Text)
	}
	s := r.sum()
	if r.bad {
		return impl.Sym{}, false
	}
	return s, true
}

// termExpr: an expression that is often a term.
func termExpr(next func(int) int, deep int) string {
	if deep <= 0 || next(5) == 0 {
		return pick(next, "i", "j", "len(a)", "len(b)", "0", "1", "3", "500", "999", "1000", "1001", "i", "i", "a[0]", "k", "2")
	}
	one, two, num := termExpr(next, deep-1), termExpr(next, deep-2), pick(next, "1", "0", "2", "400", "-600", "(1 - 2)")
	return pick(next, one+" + "+num, one+" - "+num, num+" + ("+one+")", one+" - ("+one+")", "-("+one+")", one+" + ("+two+")", one+" - ("+two+")", "("+one+") * "+num, num+" * ("+two+")", one+" - ("+num+")")
}

// valsOf: 0, the variables, and how many cells each array has.
func valsOf(c impl.Conf) []int {
	vals := append([]int{0}, c.Vars...)
	for _, row := range c.Cells {
		vals = append(vals, len(row))
	}
	return vals
}

// wantTermValue: the promise of a Sym, in one state; it tells whether there was
// something to be asked.
func wantTermValue(t *testing.T, n impl.Node, c impl.Conf, e impl.Node) bool {
	t.Helper()
	s, ok := impl.SymOf(n, e)
	num, trap := impl.ValueOf(n, c, e)
	if !ok || trap != 0 {
		return false
	}
	if got, ok := impl.SymVal(s, valsOf(c)); got != num || !ok {
		t.Fatalf("%s is %v, so %d %v; its value is %d", impl.ExprText(e), s, got, ok, num)
	}
	return true
}

func TestTermsByWords(t *testing.T) {
	n := tree(t, termText)
	labels := strings.Fields("i j len(a) len(b)")
	next := draws(84)
	terms, asked := 0, 0
	for range 6000 {
		e := exprOf(t, termExpr(next, 1+next(4)))
		want, isTerm := termByWords(labels, e)
		if got, ok := impl.SymOf(n, e); got != want || ok != isTerm {
			t.Fatalf("%s is %v %v, want %v %v", impl.ExprText(e), got, ok, want, isTerm)
		}
		if isTerm {
			terms++
		}
		vars := []int{next(2000) - 1000, []int{-bound, -1, 0, 7, bound}[next(5)]}
		if wantTermValue(t, n, state(vars, "1 . -5", strings.Repeat(". ", next(61))), e) {
			asked++
		}
	}
	if terms < 1000 || asked < 800 {
		t.Fatalf("only %d terms, %d values", terms, asked)
	}
}

// partsOf: all expressions of a tree.
func partsOf(n impl.Node) []impl.Node {
	var list []impl.Node
	if n.Kind >= impl.ExNum && n.Kind <= impl.ExMul {
		list = append(list, n)
	}
	for _, kid := range n.Kids {
		list = append(list, partsOf(kid)...)
	}
	return list
}

// The promise along runs: of all expressions of a program, in all its states.
func TestTermsAlongRuns(t *testing.T) {
	next := draws(85)
	asked := 0
	for range 60 {
		n := runProgram(t, next)
		exprs := partsOf(n)
		labels := impl.LabelsOf(n)
		for _, e := range exprs {
			want, isTerm := termByWords(labels, e)
			if got, ok := impl.SymOf(n, e); got != want || ok != isTerm {
				t.Fatalf("%s is %v %v, want %v %v", impl.ExprText(e), got, ok, want, isTerm)
			}
		}
		c, ok := impl.Begin(n, []int{next(5)})
		for steps := 0; ok && steps < 30 && c.Trap == 0; steps++ {
			for _, e := range exprs {
				if wantTermValue(t, n, c, e) {
					asked++
				}
			}
			c = impl.Step(n, c, []int{1, -bound, 3, bound, 0})
		}
	}
	if asked < 1000 {
		t.Fatalf("only %d", asked)
	}
}

// Every answer is new memory, nothing is written into an argument nor behind
// it, what is behind it is not read, and the same is told each time.
func TestTermArgumentsAreKept(t *testing.T) {
	n, e := tree(t, termText), exprOf(t, "(i + 5) - 3 * 2")
	n2, e2 := copyTree(n), copyTree(e)
	f, vals, names := factsOf(3, append([]int{0, 4, 5, 6, 0, 7, 8, 9, 0}, -77, -77)[:9]...), []int{0, 1, 2, math.MaxInt}, []string{"x", "len(y)", "?"}
	g := copyFacts(f)
	for range 2 {
		wantVal(t, sym(2, 5), vals[:3], 7)
		wantNoVal(t, sym(3, 5), vals[:3])
		wantTerm(t, sym(2, -5), names[:2], "len(y) - 5")
		wantNoTerm(t, "?", names[:2])
		wantMost(t, f, sym(1, 3), sym(2, 4))
		labels := impl.LabelsOf(n)
		if strings.Join(labels, " ") != "i j len(a) len(b)" {
			t.Fatal(labels)
		}
		clear(labels[:cap(labels)])
		if got, ok := impl.SymOf(n, e); got != sym(1, -1) || !ok {
			t.Fatal(got, ok)
		}
	}
	if !sameTree(n, n2) || !sameTree(e, e2) || !sameFacts(f, g) || f.Most[:10][9] != -77 || !slices.Equal(vals, []int{0, 1, 2, math.MaxInt}) || !slices.Equal(names, []string{"x", "len(y)", "?"}) {
		t.Fatal(n, e, f, vals, names)
	}
}
