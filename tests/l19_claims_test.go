package tests

import (
	"math"
	"slices"
	"strconv"
	"strings"
	"sync"
	"testing"

	"loop.example/g00093/impl"
)

// isClaimByWords: whether a condition may be asked of the states of a program,
// told from its words.
func isClaimByWords(n, cond impl.Node) bool {
	list, _ := impl.Words(impl.ExprText(cond))
	for at, w := range list {
		if w.Kind != impl.WdName {
			continue
		}
		own := impl.VarsOf(n)
		if at >= 2 && list[at-2].Text == "len" {
			own = impl.ArraysOf(n)
		}
		isCell := at+1 < len(list) && list[at+1].Text == "["
		if isCell || !slices.Contains(own, w.Text) {
			return false
		}
	}
	return impl.CondOk(cond)
}

// claimByWords: whether a claim holds of what is told, told from its words.
func claimByWords(n impl.Node, a impl.Abs, cond impl.Node) bool {
	return impl.Check(n).Code == impl.OK && isAbsByParts(n, a) && isClaimByWords(n, cond) && isNothing(assumeByWords(n, a, cond, false))
}

// wantHolds: a claim holds as it is told otherwise, and the arguments stay as they
// are.
func wantHolds(t *testing.T, n impl.Node, a impl.Abs, cond impl.Node, want bool, about ...any) {
	t.Helper()
	tree, abs, claim := copyTree(n), copyAbs(a), copyTree(cond)
	if got := impl.Holds(n, a, cond); got != want || claimByWords(n, a, cond) != want {
		t.Fatalf("%v: %s in %v: %v, want %v", about, impl.ExprText(cond), a, got, want)
	}
	if !sameTree(n, tree) || !sameAbs(a, abs) || !sameTree(cond, claim) {
		t.Fatalf("%v: the arguments have become %v, %v and %v", about, n, a, cond)
	}
}

// wantNoClaim: what is no claim does not hold, also where nothing is told, and
// nothing proves it.
func wantNoClaim(t *testing.T, n impl.Node, a impl.Abs, cond impl.Node, about ...any) {
	t.Helper()
	for _, one := range []impl.Abs{a, nothing()} {
		if impl.Holds(n, one, cond) {
			t.Fatalf("%v: %.300v holds in %v", about, cond, one)
		}
	}
	if is, code := impl.Proves(n, 0, cond); is || code != impl.ErrForm {
		t.Fatalf("%v: %.300v is proved: %v, code %d", about, cond, is, code)
	}
}

// claims: what holds of the two arrays where this is told, and what does not,
// parted by commas.
func claims() [][3]string {
	return [][3]string{
		// One variable and a number: each of the kinds just so, and one off.
		{"i >= 2, i <= 5", "i >= 2, i > 1, i <= 5, i < 6, 2 <= i, 1 < i, 5 >= i, 6 > i, i != 1, i != 6, 1 != i, 6 != i", "i >= 3, i > 2, i <= 4, i < 5, 3 <= i, 2 < i, 4 >= i, 5 > i, i != 2, i != 5, i != 3, 2 != i, i == 2, i == 5, 3 == i, i == 9, i < 2, i > 5, i <= 1, i >= 6"},
		{"i = 4", "i == 4, 4 == i, i <= 4, i >= 4, i < 5, i > 3, i != 3, i != 5", "i == 3, i == 5, i != 4, i < 4, i > 4, i <= 3, i >= 5, 4 != i"},
		{"i = -4", "i == -4, i <= -4, i >= -4, -i == 4, i + 4 == 0", "i == 4, i > -4, i < -4, i >= 0"},
		{"i >= 1", "i >= 1, i > 0, i != 0, i != -1000000", "i >= 2, i > 1, i < 1000000, i != 1, i != 1000000, i <= 999999"},
		{"i <= 1", "i <= 1, i < 2, i != 2, i != 1000000", "i <= 0, i < 1, i > -1000000, i != 1, i >= -999999"},
		{"i = 1000000, j = -1000000", "i == 1000000, j == -1000000, i > j, i >= 1000000, i != j, j < i, i + j == 0", "i < 1000000, j > -1000000, i == j, i <= j"},
		// Nothing is known.
		{"", "i == i, i <= i, i >= i, i - i == 0, i < i + 1, i + 1 > i, i + 1 != i, 3 < 4, 3 <= 3, 4 > 3, 3 >= 3, 3 == 3, 3 != 4, i <= 1000000, i >= -1000000, i * 0 == 0, 1001 == 1001, 1001 < 1002, i + 2 - 1 == i + 1", "i < 1000000, i > -1000000, i < j, i <= j, i > j, i >= j, i == j, i != j, i != i, i < i, i > i, 4 < 4, 4 < 3, 4 <= 3, 3 > 4, 3 > 3, 3 >= 4, 3 == 4, 3 != 3, i * j == j * i, len(a) >= 0, i * 1 == i, 1001 != 1001, i + 1 < i"},
		// Two variables.
		{"i - j <= 0", "i <= j, j >= i, i < j + 1, j + 1 > i, i - 1 < j, i - j <= 0, j - i >= 0", "i < j, i != j, i == j, j > i, i >= j, i <= j - 1, i - j < 0, i + 1 <= j"},
		{"i - j <= -1", "i < j, i <= j, j > i, j >= i, i != j, j != i, i + 1 <= j, i + 2 != j + 2, i - j < 0, j - i >= 1, j - i > 0, i - j != 0, i < 1000000, j > -1000000", "i == j, i > j, i >= j, i + 1 < j, i + 2 <= j, i + 1 != j, j - i >= 2, i + 2 != j"},
		{"j - i <= -1", "i > j, i >= j, i != j, j < i, j <= i", "i == j, i < j, i <= j, i > j + 1, i != j + 1"},
		{"i - j = 0", "i == j, i <= j, i >= j, j == i, i - j == 0, i + 5 == j + 5, i < j + 1, i != j + 1", "i != j, i < j, i > j, i == j + 1, i == 0"},
		{"i - j = 3", "i == j + 3, i - 3 == j, i > j, i != j, i - j == 3, j - i == -3, i != j + 2, i != j + 4, i >= j + 3", "i == j, i > j + 3, i == j + 4, i != j + 3, i < j + 3"},
		{"i >= 0, i <= 5, j >= 6, j <= 9", "i < j, i <= j, i != j, j > i, j >= i, i + j >= 6, i + j <= 14, j - i >= 1, i * j <= 45, i * j >= 0, i + 1 <= j, i - j <= -1, i * 1 < j * 1, i * 1 != j * 1, -i > -j", "i == j, i > j, i + 1 < j, i + j >= 7, i + j <= 13, i * j < 45, i * j > 0, j - i >= 2, i * 1 + 1 < j * 1, i + 1 != j, j - i <= 8"},
		// They follow from others: the facts are not closed.
		{"i - len(a) <= 0, len(a) - j <= 0", "i <= j, j >= i, i <= len(a), len(a) <= j, i - 1 < j", "i < j, i != j, len(a) < j, i == len(a)"},
		{"i - j <= -2, j <= 7, len(b) - i <= -3", "i <= 5, len(b) <= 2, len(b) + 5 <= j, len(b) != j, i != 6", "i <= 4, len(b) <= 1, len(b) + 5 < j, i != 5"},
		// Lengths.
		{"len(a) = 3, len(b) >= 0, len(b) <= 60, i >= 0, i - len(a) <= -1", "len(a) == 3, 3 == len(a), len(b) <= 60, len(b) >= 0, i < len(a), i <= 2, i < 3, len(a) + len(b) >= 3, len(a) * len(b) <= 180, len(b) - len(a) >= -3, i - len(a) < 0, -len(a) == -3, len(a) != len(b) + 4, i != len(a)", "len(b) < 60, len(b) > 0, i <= 1, i < len(b), len(a) != 3, len(a) * len(b) < 180, len(b) - len(a) >= -2, len(a) != len(b), i == 2, i >= len(a)"},
		// Sums, products and changes of sign that are no terms.
		{"i >= 2, i <= 5, j = 3", "-i <= -2, -i >= -5, -i < -1, -i != 0, i * 2 >= 4, i * 2 < 11, i * i <= 25, i * i != 3, i + i <= 10, i * j >= 6, j * i < 16, j * j == 9, i + 1001 >= 1003, i + 1001 < 1007, -(i * j) <= -6, (i + 1) * (j - 1) <= 12, 4 <= i + i, 26 > i * i, 1003 <= 1001 + i, -j == -3, i - -j >= 5, -(-i) <= 5, 2 - i * 2 < 0", "-i <= -3, -i > -5, -i != -3, i * 2 >= 5, i * 2 < 10, i * i < 25, i * i != 4, i + i < 10, i * j > 6, i * j != 15, i + 1001 > 1003, i + 1001 == 1004, -(i * j) < -6, (i + 1) * (j - 1) < 12, 5 <= i + i, 25 > i * i, -j != -3, i - -j > 5, j * j != 9"},
		// A side that is too great for certain holds as it may, or just not for
		// certain.
		{"i >= 1001, j >= 1000", "i * j == 0, i * j != 0, i * j < 0, i * j <= 0, i * j > 0, i * j >= 0, 0 == i * j, j + 999999 < 0, -(i * j) == 5, i * j == j * i, i * j + 1 < 0, 0 > i * j - i * j, 1000000 + 1 != 1000000 + 1", "j + 999000 < 0, i - i * 2 == 0, i == 0, j * 1000 == 0, j * 1000 < 0"},
		{"i >= 1000, j >= 1000", "i * j == 1000000, i * j >= 1000000, i * j > 999999, i * (j + 1) < 0, (i + 1) * j == 1", "i * j == 0, i * j != 1000000, i * j > 1000000, i * j < 1000000"},
		{"i = 1000000", "i + 1 < 0, i + 1 == 0, i + 1 >= 0, 0 > i + 1, -i - 1 > 0, i == 1000000, i - 1 + 1 == i", "i < 0, i - 1 < 0, -i > 0, i + 0 < 0"},
	}
}

func conds(t *testing.T, list string) []impl.Node {
	t.Helper()
	var all []impl.Node
	for _, text := range strings.Split(list, ", ") {
		all = append(all, condOf(t, text))
	}
	return all
}

func TestHolds(t *testing.T) {
	n := twoArrays(t)
	for _, one := range claims() {
		for _, rows := range [][2]string{{plainA, plainB}, {valuesA, valuesB}} {
			a := told(t, one[0], rows[0], rows[1])
			for _, cond := range conds(t, one[1]) {
				wantHolds(t, n, a, cond, true, one[0])
				wantHolds(t, n, impl.AbsNorm(n, a), cond, true, one[0], "normed")
			}
			for _, cond := range conds(t, one[2]) {
				wantHolds(t, n, a, cond, false, one[0])
				wantHolds(t, n, impl.AbsNorm(n, a), cond, false, one[0], "normed")
				wantHolds(t, n, nothing(), cond, true, "nothing")
			}
		}
	}
}

// Each condition that can be built of some expressions, with what is told of all
// kinds.
func TestHoldsByWords(t *testing.T) {
	n := edgeProgram(t, "skip;")
	var exprs, others []impl.Node
	for _, text := range stepExprs() {
		if e := exprOf(t, text); strings.Contains(text, "[") {
			others = append(others, e)
		} else {
			exprs = append(exprs, e)
		}
	}
	exprs = append(exprs, others[:4]...)
	next := draws(1900)
	counts := map[bool]int{}
	kinds := map[int]int{}
	for _, a := range manyTold(t) {
		for kind := impl.CdLess; kind <= impl.CdOther; kind++ {
			for range 12 {
				cond := node(kind, exprs[next(len(exprs))], exprs[next(len(exprs))])
				want := claimByWords(n, a, cond)
				if wantHolds(t, n, a, cond, want); want && !isNothing(normByParts(a)) {
					kinds[kind]++
				}
				counts[want]++
			}
		}
		for _, text := range stepConds() {
			cond := condOf(t, text)
			if got := impl.Holds(n, a, cond); got != claimByWords(n, a, cond) {
				t.Fatalf("%s in %v: %v", text, a, got)
			}
		}
	}
	if counts[true] < 700 || counts[false] < 2000 {
		t.Fatal(counts)
	}
	for kind := impl.CdLess; kind <= impl.CdOther; kind++ {
		if kinds[kind] < 30 {
			t.Fatal(kinds)
		}
	}
}

// Where nothing is told, and where it becomes nothing, all holds that may be
// asked.
func TestHoldsOfNothing(t *testing.T) {
	n := twoArrays(t)
	list := append(becomeNothing(t), nothing(), impl.Abs{Segs: []impl.Seg{}}, impl.Abs{Facts: factsOf(0, []int{}...), Segs: make([]impl.Seg, 0, 3)})
	for _, a := range list {
		for _, text := range []string{"i < j", "i != i", "3 > 4", "len(a) == len(b) + 1", "i * j == 7", "-i >= 1000000", "1000000 + 1 < 3"} {
			wantHolds(t, n, a, condOf(t, text), true)
		}
		for _, text := range []string{"a[0] == a[0]", "k == k", "a < b", "len(i) == 3", "a[0] < 3", "i < k"} {
			wantHolds(t, n, a, condOf(t, text), false)
		}
	}
}

// wrapped: an expression at each place of a side where one can stand that reads no
// cell.
func wrapped(e impl.Node) []impl.Node {
	list := []impl.Node{e}
	for range 2 {
		for _, inner := range slices.Clone(list) {
			list = append(list, node(impl.ExNeg, inner))
			for kind := impl.ExAdd; kind <= impl.ExMul; kind++ {
				list = append(list, node(kind, inner, number(2)), node(kind, number(2), inner))
			}
		}
	}
	return list
}

// A cell, a name that is not the program's own and one of the other kind, at each
// place of both sides.
func TestClaimsWithWrongNames(t *testing.T) {
	n, a := twoArrays(t), told(t, "i = 0, j = 1, len(a) >= 9, len(b) >= 9", "{0} 1..1 {len(a)}", "{0} 1..1 {len(b)}")
	for _, text := range []string{"i", "j", "len(a)", "len(b)", "7"} {
		for _, e := range wrapped(exprOf(t, text)) {
			for kind := impl.CdLess; kind <= impl.CdOther; kind++ {
				wantHolds(t, n, nothing(), node(kind, e, variable("i")), true, text)
				wantHolds(t, n, nothing(), node(kind, named(impl.ExLen, "a"), e), true, text)
			}
		}
	}
	one := number(1)
	for _, wrong := range []impl.Node{
		named(impl.ExCell, "a", one), named(impl.ExCell, "b", variable("i")), named(impl.ExCell, "a", named(impl.ExCell, "a", one)), named(impl.ExCell, "a", named(impl.ExLen, "a")),
		variable("k"), variable("a"), variable("b"), variable("x1234567"), variable("ii"), variable(""), variable("I"), variable("len"), variable("i "), named(impl.ExLen, "c"), named(impl.ExLen, "i"), named(impl.ExLen, "j"), named(impl.ExLen, "aa"), named(impl.ExLen, ""), named(impl.ExLen, "A"),
		named(impl.ExCell, "c", one), named(impl.ExCell, "i", one), named(impl.ExCell, "", one), {Kind: impl.ExNum, Name: "i"}, {Kind: impl.ExNum, Num: -1}, number(1000001),
	} {
		for at, e := range wrapped(wrong) {
			kind := impl.CdLess + at%6
			wantNoClaim(t, n, a, node(kind, e, variable("i")))
			wantNoClaim(t, n, a, node(kind, named(impl.ExLen, "a"), e))
		}
		for kind := impl.CdLess; kind <= impl.CdOther; kind++ {
			wantNoClaim(t, n, a, node(kind, wrong, wrong))
			wantNoClaim(t, n, a, node(kind, one, wrong))
		}
	}
	// The same names, as another program declares them.
	other := tree(t, "array i[?]; var a; array j[?]; var b; skip;")
	for _, text := range []string{"i", "j", "len(a)", "len(b)"} {
		wantNoClaim(t, other, a, condOf(t, "1 < "+text))
		wantNoClaim(t, other, a, condOf(t, text+" == "+text))
	}
	for _, text := range []string{"a < b", "len(i) - a >= 9"} {
		wantNoClaim(t, n, a, condOf(t, text))
		wantHolds(t, other, a, condOf(t, text), true)
	}
}

// Trees that are no conditions, and those that are at a limit and past it.
func TestClaimsThatAreNone(t *testing.T) {
	n, a := twoArrays(t), told(t, "i = 0, j = 1", plainA, plainB)
	fine, same := exprOf(t, "i"), condOf(t, "i == i")
	list := []impl.Node{{}, n, n.Kids[0], n.Kids[4], n.Kids[4].Kids[0], fine, number(0), node(impl.StSkip), node(impl.StCheck, same), node(impl.ExNeg, same), {Kind: math.MinInt}, {Kind: math.MaxInt}, block(), nested(same, 1)}
	for kind := -2; kind < 45; kind++ {
		if kind < impl.CdLess || kind > impl.CdOther {
			list = append(list, node(kind, fine, fine), node(kind), node(kind, fine), named(kind, "i", fine, fine))
		}
	}
	for kind := impl.CdLess; kind <= impl.CdOther; kind++ {
		cond := node(kind, exprOf(t, "j"), exprOf(t, "i + 1"))
		list = append(list, spoils(cond)...)
		list = append(list, node(kind), node(kind, fine), node(kind, fine, fine, fine), node(kind, same, fine), node(kind, fine, same), named(kind, "i", fine, fine), impl.Node{Kind: kind, Num: 3, Kids: cond.Kids})
		for _, bad := range spoils(fine) {
			list = append(list, node(kind, bad, fine), node(kind, fine, node(impl.ExAdd, number(1), bad)))
		}
	}
	loop := []impl.Node{{Kind: impl.ExNeg}}
	loop[0].Kids = loop
	list = append(list, loop[0], node(impl.CdSame, fine, loop[0]), node(impl.CdSame, loop[0], fine), nested(fine, 24), nested(fine, 100000), wideExpr(501))
	for at, wrong := range list {
		wantNoClaim(t, n, a, wrong, at)
	}
	if impl.Holds(loop[0], a, same) || impl.Holds(loop[0], nothing(), same) {
		t.Fatal("a program that holds itself")
	}
	for kind := impl.CdLess; kind <= impl.CdOther; kind++ {
		// As deep as may be, and one deeper; on each side.
		wantHolds(t, n, nothing(), node(kind, nested(fine, 22), fine), true)
		wantHolds(t, n, nothing(), node(kind, fine, nested(fine, 22)), true)
		wantNoClaim(t, n, a, node(kind, nested(fine, 23), fine))
		wantNoClaim(t, n, a, node(kind, fine, nested(fine, 23)))
	}
	wantHolds(t, n, a, node(impl.CdSame, nested(number(1), 22), number(1)), true)
	wantHolds(t, n, a, node(impl.CdOther, number(1), nested(number(1), 22)), false)
	// As many nodes as may be, and one more.
	wide := tree(t, "var x; skip;")
	start := impl.AbsStart(wide)
	wantHolds(t, wide, start, node(impl.CdSame, wideExpr(249), wideExpr(250)), true)
	wantHolds(t, wide, start, node(impl.CdOther, wideExpr(250), wideExpr(249)), false)
	wantNoClaim(t, wide, start, node(impl.CdSame, wideExpr(250), wideExpr(250)))
	wantNoClaim(t, wide, start, node(impl.CdSame, wideExpr(249), wideExpr(251)))
}

// A condition need not have a text: one with too many bytes is a condition all the
// same.
func TestClaimsWithoutText(t *testing.T) {
	n := tree(t, "array abcdefgh[1]; skip;")
	one := named(impl.ExLen, "abcdefgh")
	for kind := impl.CdLess; kind <= impl.CdOther; kind++ {
		cond := node(kind, sumOf(one, 125), sumOf(one, 125))
		less := node(kind, sumOf(one, 125), sumOf(one, 124))
		if impl.CountNodes(cond) != 499 || impl.ExprText(cond) != "" || impl.ExprText(less) != "" {
			t.Fatal(impl.CountNodes(cond), impl.ExprText(cond))
		}
		for _, one := range []struct {
			cond impl.Node
			so   bool
		}{{cond, holds(kind, 125, 125)}, {less, holds(kind, 125, 124)}} {
			is, code := impl.Proves(n, 1, one.cond)
			if impl.Holds(n, impl.AbsStart(n), one.cond) != one.so || is != one.so || code != impl.OK {
				t.Fatal(kind, one.so, is, code)
			}
		}
	}
}

func TestClaimsOfWrongStates(t *testing.T) {
	n := twoArrays(t)
	for at, wrong := range wrongAbs(t) {
		for _, text := range []string{"i == i", "3 < 4", "len(a) >= len(a)", "i < i"} {
			wantHolds(t, n, wrong, condOf(t, text), false, at)
		}
		for array := -1; array < 4; array++ {
			wantCells(t, n, wrong, array, false, noRange(), at)
		}
	}
	for vars := range 4 {
		for arrays := range 4 {
			if vars != 2 || arrays != 2 {
				wantHolds(t, n, topOf(vars, arrays), condOf(t, "3 < 4"), false)
				wantCells(t, n, topOf(vars, arrays), 0, false, noRange())
			}
		}
	}
}

func TestClaimsOfWrongPrograms(t *testing.T) {
	list := []impl.Abs{nothing(), {Segs: []impl.Seg{}}, told(t, "i = 1", plainA, plainB)}
	for vars := range 3 {
		for arrays := range 3 {
			list = append(list, topOf(vars, arrays))
		}
	}
	for at, n := range wrongPrograms(t) {
		for _, text := range []string{"3 < 4", "i == i", "len(a) >= 0"} {
			cond := condOf(t, text)
			for _, a := range list {
				if impl.Holds(n, a, cond) {
					t.Fatalf("%d: %s holds in %v", at, text, a)
				}
			}
			for _, point := range []int{-1, 0, 1, 2, 3, math.MaxInt, math.MinInt} {
				wantProves(t, n, point, cond, false, impl.ErrForm, at)
			}
		}
		for _, a := range list {
			for array := -1; array < 3; array++ {
				if r := impl.CellsRange(n, a, array); impl.AllWritten(n, a, array) || r != noRange() {
					t.Fatalf("%d: array %d of %v: %v", at, array, a, r)
				}
			}
		}
	}
}

// Each number of variables and of arrays, none of them too.
func TestCountsOfClaims(t *testing.T) {
	for vars := range 9 {
		for arrays := range 5 {
			n := declared(t, vars, []string{"?", "0", "3", "60"}[:arrays]...)
			a := impl.AbsStart(n)
			wantHolds(t, n, a, condOf(t, "3 < 4"), true, vars, arrays)
			wantHolds(t, n, a, condOf(t, "3 > 4"), false, vars, arrays)
			wantHolds(t, n, nothing(), condOf(t, "3 > 4"), true, vars, arrays)
			for k := range 9 {
				wantHolds(t, n, a, condOf(t, "v"+strconv.Itoa(k)+" == 0"), k < vars, vars, arrays)
				wantHolds(t, n, a, condOf(t, "v"+strconv.Itoa(k)+" < 0"), false, vars, arrays)
			}
			for k, most := range []int{60, 0, 3, 60, 0} {
				name := "len(a" + strconv.Itoa(k) + ")"
				wantHolds(t, n, a, condOf(t, name+" <= "+strconv.Itoa(most)), k < arrays, vars, arrays)
				wantHolds(t, n, a, condOf(t, name+" == "+strconv.Itoa(most)), k < arrays && k != 0, vars, arrays)
			}
			for k := -1; k < 6; k++ {
				wantCells(t, n, a, k, k == 1 && arrays > 1, noRange(), vars, arrays)
				wantCells(t, n, nothing(), k, k >= 0 && k < arrays, noRange(), vars, arrays)
				if top := topOf(vars, arrays); k >= 0 && k < arrays {
					wantCells(t, n, top, k, false, span(-bound, bound), vars, arrays)
					top.Segs[k].Vals[0].Sure = true
					wantCells(t, n, top, k, true, span(-bound, bound), vars, arrays)
				} else {
					wantCells(t, n, top, k, false, noRange(), vars, arrays)
				}
			}
			for _, k := range []int{math.MinInt, -1 << 32, 1 << 32, math.MaxInt, 1000000} {
				wantCells(t, n, a, k, false, noRange(), vars, arrays)
				wantCells(t, n, nothing(), k, false, noRange(), vars, arrays)
			}
		}
	}
}

// wantProves: what is proved at a point is so, and is what Holds tells of what the
// point has in Points.
func wantProves(t *testing.T, n impl.Node, point int, cond impl.Node, want bool, code int, about ...any) {
	t.Helper()
	tree, claim := copyTree(n), copyTree(cond)
	got, other := impl.Proves(n, point, cond)
	if got != want || other != code {
		t.Fatalf("%v: %s at %d: %v, code %d, want %v, %d", about, impl.ExprText(cond), point, got, other, want, code)
	}
	if code == impl.OK && claimByWords(n, impl.Solve(n).Points[point], cond) != want {
		t.Fatalf("%v: %s at %d: %v, not as Points has it", about, impl.ExprText(cond), point, got)
	}
	if !sameTree(n, tree) || !sameTree(cond, claim) {
		t.Fatalf("%v: the arguments have become %v and %v", about, n, cond)
	}
}

func TestProves(t *testing.T) {
	for _, one := range []struct {
		text    string
		point   int
		so, not string
	}{
		{"var i; array a[3]; i = 1; while i < 3 { i = i + 1; }", 0, "i == 0, len(a) == 3, i <= 0, i < 1, i - len(a) == -3", "i == 1, i > 0, len(a) < 3"},
		{"var i; array a[3]; i = 1; while i < 3 { i = i + 1; }", 2, "i >= 1, i <= 3, i <= len(a), i != 0, i != 4", "i == 1, i <= 2, i < len(a), i != 3, i != 1, i >= 2"},
		{"var i; array a[3]; i = 1; while i < 3 { i = i + 1; }", 3, "i >= 1, i <= 2, i < 3, i < len(a), i * i <= 4", "i == 2, i <= 1, i != 2, i * i <= 3"},
		{"var i; array a[3]; i = 1; while i < 3 { i = i + 1; }", 6, "i == 3, i >= 3, i <= 3, i == len(a), i != 2", "i < 3, i != 3, i > 3, i == 2"},
		// Where nothing comes.
		{"var i; stop; i = 1;", 1, "i == 1, i < i, 3 > 4, i * i != 0", ""}, {"var i; stop; i = 1;", 2, "i == 1, i != 1, 3 > 4", ""}, {"var i; stop; i = 1;", 3, "i == 0", "i == 1, 3 > 4"}, {"var i; while 0 < 1 { i = 0; }", 5, "i == 7, i != i, 0 < 0", ""},
		// A program without statements has two points, and may have no symbols.
		{"var i;", 0, "i == 0", "i != 0"}, {"var i;", 1, "i == 0", "i != 0"}, {"skip;", 1, "0 < 1, 3 == 3", "1 < 0, 3 != 3"}, {"array a[0]; skip;", 2, "len(a) == 0, 0 * 7 == 0", "len(a) > 0"},
		{"var i; array a[?]; for i from 0 to len(a) { a[i] = i; }", 7, "i == len(a), i >= 0, i <= 60", "i < len(a), i > 0, i == 60"}, {"var i; array a[?]; for i from 0 to len(a) { a[i] = i; }", 3, "i < len(a), i >= 0, len(a) >= 1, i <= 59, i * 2 <= 118", "i > 0, i < 59, len(a) > 1, i + 1 < len(a)"},
		{"var i; var j; read i; if i < 5 { j = 1; } else { j = i; }", 7, "j >= 1, i - j <= 3", "j >= 2, j == 1, i <= j, i - j <= 2"}, {"var i; var j; read i; if i < 5 { j = 1; } else { j = i; }", 3, "j == 1, i < 5, i <= 4, i - j <= 3", "i < 4, i == j"}, {"var i; var j; read i; if i < 5 { j = 1; } else { j = i; }", 5, "j == i, i >= 5, j * i >= 25", "j > 5, j * i > 25"},
	} {
		n := tree(t, one.text)
		for at, list := range []string{one.so, one.not} {
			if list == "" {
				continue
			}
			for _, cond := range conds(t, list) {
				wantProves(t, n, one.point, cond, at == 0, impl.OK, one.text)
			}
		}
	}
}

func TestPointsOfProofs(t *testing.T) {
	for _, text := range []string{"var i;", "skip;", "var i; i = 1; while i < 3 { i = i + 1; }", "var i; if i < 2 { } else { stop; }"} {
		n := tree(t, text)
		last := impl.GraphOf(n).Points - 1
		so, not := condOf(t, "3 < 4"), condOf(t, "k < a[0]")
		for _, point := range []int{-1, -2, last + 1, last + 2, 500, 100000, 1 << 32, -1 << 32, math.MinInt, math.MaxInt} {
			wantProves(t, n, point, so, false, impl.ErrForm, text)
			wantProves(t, n, point, not, false, impl.ErrForm, text)
		}
		for point := 0; point <= last; point++ {
			wantProves(t, n, point, so, true, impl.OK, text)
			wantProves(t, n, point, not, false, impl.ErrForm, text)
			wantProves(t, n, point, number(3), false, impl.ErrForm, text)
			wantProves(t, n, point, impl.Node{}, false, impl.ErrForm, text)
		}
	}
}

// What is told ahead of the last pass proves less.
func TestProofsByPoints(t *testing.T) {
	for _, one := range []struct {
		text  string
		point int
		cond  string
	}{
		{"var i; i = 1; while i < 2 + 1 { i = i + 1; }", 2, "i <= 3"}, {"var i; i = 1; while i < 2 + 1 { i = i + 1; }", 6, "i == 3"}, {"var i; i = 1; while i < 2 + 1 { i = i + 1; }", 5, "i != 4"},
		{"var i; var j; while i < 3 { i = i + 1; } while j < 5 { j = j + i; }", 9, "j <= 7"},
	} {
		n := tree(t, one.text)
		cond := condOf(t, one.cond)
		table := impl.Solve(n)
		wide, points := impl.Holds(n, table.Wide[one.point], cond), impl.Holds(n, table.Points[one.point], cond)
		if wide || !points {
			t.Fatalf("%s: %s at %d: %v and %v", one.text, one.cond, one.point, wide, points)
		}
		wantProves(t, n, one.point, cond, true, impl.OK, one.text)
	}
	next := draws(1901)
	proved := 0
	for range 60 {
		n, _ := drawnProgram(t, next)
		points := impl.Solve(n).Points
		for range 4 {
			point := next(len(points))
			cond := drawnClaim(next, n, points[point])
			want := impl.Holds(n, points[point], cond)
			if wantProves(t, n, point, cond, want, impl.OK, shown(n)); want && !isNothing(points[point]) {
				proved++
			}
		}
	}
	if proved < 40 {
		t.Fatal(proved)
	}
}

// A condition that is not as wanted is told ahead of the budget.
func TestProofsOverTheBudget(t *testing.T) {
	const decl, once = "var i; var j; var k; ", "while 0 > 1 {} "
	left := impl.MaxVisits - impl.Solve(tree(t, decl+nestOf(3)+nestOf(3)+once)).Visits
	full, spent := spentOf(t, decl, nestOf(3)+nestOf(3), once, left), spentOf(t, decl, nestOf(3)+nestOf(3), once, left+1)
	last := impl.GraphOf(full).Points - 1
	wantProves(t, full, last, condOf(t, "i == 3"), true, impl.OK)
	wantProves(t, full, last, condOf(t, "i == 2"), false, impl.OK)
	for _, n := range []impl.Node{spent, tree(t, "var i; var j; var k; var l; "+nestOf(4))} {
		last := impl.GraphOf(n).Points - 1
		for _, point := range []int{0, 1, last} {
			for _, text := range []string{"3 < 4", "i * j != k"} {
				wantProves(t, n, point, condOf(t, text), false, impl.ErrBudget)
			}
			for _, text := range []string{"m == m", "len(i) == 0", "a[0] < 1", "i + m < 3", "i[0] == i[0]"} {
				wantProves(t, n, point, condOf(t, text), false, impl.ErrForm)
			}
			for _, wrong := range []impl.Node{{}, number(1), n, node(impl.CdLess, number(1)), node(impl.CdSame, variable(""), number(1)), node(impl.CdSame, nested(number(1), 23), number(1))} {
				wantProves(t, n, point, wrong, false, impl.ErrForm)
			}
		}
		for _, point := range []int{-1, last + 1, math.MinInt, math.MaxInt} {
			wantProves(t, n, point, condOf(t, "3 < 4"), false, impl.ErrForm)
		}
	}
}

// cellsByParts: what is told of all cells of an array, told otherwise.
func cellsByParts(n impl.Node, a impl.Abs, array int) (bool, impl.Range) {
	if impl.Check(n).Code != impl.OK || !isAbsByParts(n, a) || array < 0 || array >= len(impl.ArraysOf(n)) {
		return false, noRange()
	}
	norm := normByParts(a)
	if isNothing(norm) {
		return true, noRange()
	}
	all, ends := true, []int{}
	for _, v := range norm.Segs[array].Vals {
		if all = all && v.Sure; v.R != noRange() {
			ends = append(ends, v.R.Lo, v.R.Hi)
		}
	}
	if len(ends) == 0 {
		return all, noRange()
	}
	return all, span(slices.Min(ends), slices.Max(ends))
}

func wantCells(t *testing.T, n impl.Node, a impl.Abs, array int, all bool, r impl.Range, about ...any) {
	t.Helper()
	tree, abs := copyTree(n), copyAbs(a)
	got, cells := impl.AllWritten(n, a, array), impl.CellsRange(n, a, array)
	if got != all || cells != r {
		t.Fatalf("%v: array %d of %v: %v and %v, want %v and %v", about, array, a, got, cells, all, r)
	}
	if all, r := cellsByParts(n, a, array); got != all || cells != r {
		t.Fatalf("%v: array %d of %v: %v and %v, by parts %v and %v", about, array, a, got, cells, all, r)
	}
	if !sameTree(n, tree) || !sameAbs(a, abs) {
		t.Fatalf("%v: the arguments have become %v and %v", about, n, a)
	}
}

func TestCellsOfArrays(t *testing.T) {
	n := twoArrays(t)
	for _, one := range []struct {
		facts, row string
		all        bool
		cells      string
	}{
		// No Val, one and several.
		{"len(a) = 0", "{0, len(a)}", true, "none"}, {"", "{0, len(a)}", true, "none"}, {"", "{0} 4..4 {len(a)}", true, "4..4"}, {"", "{0} 4..7 or unwritten ? {len(a)}", false, "4..7"}, {"", "{0} none or unwritten {len(a)}", false, "none"},
		{"", "{0} 1..2 {i} 4..5 ? {len(a)}", true, "1..5"}, {"", "{0} 1..2 or unwritten {i} 4..5 {len(a)}", false, "1..5"}, {"", "{0} 1..2 {i} 4..5 or unwritten {len(a)}", false, "1..5"}, {"", "{0} 4..5 or unwritten {i} 1..2 or unwritten {len(a)}", false, "1..5"},
		{"", "{0} 1..1 {1} 3..3 {2} 2..2 {len(a)}", true, "1..3"}, {"", "{0} 1..1 or unwritten {1} 3..3 {2} 2..2 {len(a)}", false, "1..3"}, {"", "{0} 1..1 {1} 3..3 or unwritten {2} 2..2 {len(a)}", false, "1..3"}, {"", "{0} 1..1 {1} 3..3 {2} 2..2 or unwritten {len(a)}", false, "1..3"}, {"", "{0} 9..9 {1} 3..8 {2} -2..5 ? {i} 0..1 ? {len(a)}", true, "-2..9"}, {"", "{0} 5..5 {1} 1..9 ? {i} 4..6 {len(a)}", true, "1..9"},
		// Without a number, joined with others and alone.
		{"", plainA, false, "1..1"}, {"", "{0} none or unwritten {i} 1..1 ? {len(a)}", false, "1..1"}, {"", "{0} none or unwritten {i} none or unwritten ? {len(a)}", false, "none"}, {"", "{0} none or unwritten {i} 3..4 ? {j} none or unwritten ? {len(a)}", false, "3..4"}, {"", "{0} 7..8 {i} none or unwritten ? {j} -3..4 ? {len(a)}", false, "-3..8"},
		// Between bounds between which there is no cell.
		{"", "{0} none ? {i} 2..2 ? {len(a)}", true, "2..2"}, {"", "{0} none ? {i} 2..2 or unwritten ? {j} none ? {len(a)}", false, "2..2"}, {"", "{0} none ? {len(a)}", true, "none"}, {"", "{0} none ? {i} none ? {len(a)}", true, "none"}, {"", "{0} none ? {i} none or unwritten ? {len(a)}", false, "none"}, {"", "{0} 1..1 ? {i} none ? {j} 5..5 ? {len(a)}", true, "1..5"},
		// There would have to be a cell: nothing is left.
		{"", "{0} none {i} 1..1 ? {len(a)}", true, "none"}, {"", "{0} 1..1 or unwritten ? {i} none {len(a)}", true, "none"}, {"", "{0} 3..4 or unwritten ? {i} none ? {j} none {5} 7..7 or unwritten ? {len(a)}", true, "none"},
		// The farthest numbers, and about 0.
		{"", "{0} -1000000..-1000000 {i} 1000000..1000000 ? {len(a)}", true, "-1000000..1000000"}, {"", "{0} 1000000..1000000 {len(a)}", true, "1000000..1000000"}, {"", "{0} -1000000..-1000000 {len(a)}", true, "-1000000..-1000000"}, {"", "{0} -1000000..1000000 or unwritten {i} 0..0 ? {len(a)}", false, "-1000000..1000000"}, {"", "{0} 0..0 {len(a)}", true, "0..0"}, {"", "{0} -1..-1 {i} 0..0 ? {len(a)}", true, "-1..0"}, {"", "{0} 1..1 {i} 0..0 ? {len(a)}", true, "0..1"},
		// What the facts say of the bounds is not asked.
		{"i = 0", "{0} none or unwritten ? {i} 3..3 {len(a)}", false, "3..3"}, {"len(a) = 0", "{0} 1..2 or unwritten ? {len(a)}", false, "1..2"},
	} {
		cells, ok := impl.RangeRead(one.cells)
		if !ok {
			t.Fatal(one)
		}
		a := told(t, one.facts, one.row, "{0} 70..77 {len(b)}")
		wantCells(t, n, a, 0, one.all, cells, one)
		wantCells(t, n, impl.AbsNorm(n, a), 0, one.all, cells, one)
		other := span(70, 77)
		if isNothing(normByParts(a)) {
			other = noRange()
		}
		wantCells(t, n, a, 1, true, other, one)
		for _, array := range []int{-1, 2, 3, math.MinInt, math.MaxInt} {
			wantCells(t, n, a, array, false, noRange(), one)
		}
		// The other way round, so that the first one could be taken for the second.
		row := strings.NewReplacer("len(a)", "len(b)").Replace(one.row)
		facts := strings.NewReplacer("len(a)", "len(b)").Replace(one.facts)
		b := told(t, facts, "{0} 70..77 or unwritten {len(a)}", row)
		wantCells(t, n, b, 1, one.all, cells, one)
		wantCells(t, n, b, 0, isNothing(normByParts(b)), other, one)
	}
	for _, a := range append(manyTold(t), becomeNothing(t)...) {
		for array := -1; array < 4; array++ {
			all, r := cellsByParts(n, a, array)
			wantCells(t, n, a, array, all, r)
		}
	}
}

// Rows at their limits.
func TestCellsOfLongRows(t *testing.T) {
	n := twoArrays(t)
	for _, row := range okRows(t) {
		a := impl.Abs{Facts: capsOf(segSize), Segs: []impl.Seg{row, seg(t, plainB)}}
		if !isAbsByParts(n, a) {
			continue
		}
		for _, v := range []impl.Val{sure(span(3, 4)), unsure(noRange()), sure(span(-bound, -bound)), unsure(span(0, bound))} {
			for at := range row.Vals {
				one := remade(a, func(a *impl.Abs) {
					for k := range row.Vals {
						a.Segs[0].Vals[k], a.Segs[0].Maybe[k] = sure(span(7, 7)), true
					}
					a.Segs[0].Vals[at] = v
				})
				want := v.R
				if len(row.Vals) > 1 {
					want = around(append(ends(v.R), 7))
				}
				wantCells(t, n, one, 0, v.Sure, want)
			}
		}
	}
}

// ends: the ends of a range, if it has numbers.
func ends(r impl.Range) []int {
	if r == noRange() {
		return nil
	}
	return []int{r.Lo, r.Hi}
}

// The cells of arrays as they are told along the edges of a program.
func TestCellsAlongEdges(t *testing.T) {
	n := tree(t, "var i; array a[3]; array b[1]; array c[0]; a[2] = 5; a[0] = -1; a[1] = 3; b[0] = 8; read i; a[i] = 9; a[i * 1] = 20;")
	a := impl.AbsStart(n)
	for edge, want := range []string{"none", "5..5", "-1..5", "-1..5 all", "-1..5 all", "-1..5 all", "-1..9 all", "-1..20 all"} {
		if edge > 0 {
			a = impl.AbsEdge(n, a, edge-1)
		}
		text, all := strings.CutSuffix(want, " all")
		r, _ := impl.RangeRead(text)
		wantCells(t, n, a, 0, all, r, edge)
		b := noRange()
		if edge > 3 {
			b = span(8, 8)
		}
		wantCells(t, n, a, 1, edge > 3, b, edge)
		wantCells(t, n, a, 2, true, noRange(), edge)
		wantCells(t, n, a, 3, false, noRange(), edge)
	}
	for text, want := range map[string]bool{
		"var i; array a[?]; for i from 0 to len(a) { a[i] = 7; }":                                   true,
		"var i; array a[?]; i = len(a) - 1; while i >= 0 { a[i] = 7; i = i - 1; }":                  true,
		"var i; array a[?]; for i from 1 to len(a) { a[i] = 7; }":                                   false,
		"var i; array a[?]; for i from 0 to len(a) - 1 { a[i] = 7; }":                               false,
		"var i; array a[9]; for i from 0 to 9 { a[i] = 7; }":                                        true,
		"var i; array a[9]; for i from 0 to 8 { a[i] = 7; }":                                        false,
		"var i; array a[9]; for i from 0 to 8 { a[i] = 7; } a[8] = 7;":                              true,
		"var i; array a[?]; if len(a) > 0 { a[0] = 7; for i from 1 to len(a) { a[i] = 7; } } stop;": true,
	} {
		n := tree(t, text)
		points := impl.Solve(n).Points
		last := points[len(points)-1]
		all, r := cellsByParts(n, last, 0)
		if wantCells(t, n, last, 0, all, r, text); all != want || r != span(7, 7) {
			t.Fatalf("%s: %v, %v", text, all, r)
		}
	}
}

// drawnClaim: a condition about what a program declares, near to what is told of
// some variable.
func drawnClaim(next func(int) int, n impl.Node, a impl.Abs) impl.Node {
	var leaves []impl.Node
	for _, name := range impl.VarsOf(n) {
		leaves = append(leaves, variable(name), variable(name))
	}
	for _, name := range impl.ArraysOf(n) {
		leaves = append(leaves, named(impl.ExLen, name))
	}
	leaves = append(leaves, number(next(4)))
	// A number about an end of what is known of the first one.
	near := number(next(10))
	v := next(len(leaves))
	if size := a.Facts.Size; size > 1 {
		r := impl.FactsRange(a.Facts, 1+next(size-1))
		if end := []int{r.Lo, r.Hi}[next(2)] + next(3) - 1; end >= 0 && end <= bound {
			near = number(end)
		}
	}
	one := func() impl.Node { return leaves[next(len(leaves))] }
	some := func() impl.Node {
		switch next(8) {
		case 0:
			return node(impl.ExAdd+next(3), one(), one())
		case 1:
			return node(impl.ExAdd+next(2), one(), number(next(3)))
		case 2:
			return node(impl.ExNeg, one())
		case 3, 4:
			return near
		}
		return one()
	}
	return node(impl.CdLess+next(6), []impl.Node{leaves[v], some(), some()}[next(3)], some())
}

// keepsClaim: a claim that holds of a state, where both sides have no trap.
func keepsClaim(n impl.Node, c impl.Conf, cond impl.Node) (isAsked, isSo bool) {
	x, trap := impl.ValueOf(n, c, cond.Kids[0])
	y, other := impl.ValueOf(n, c, cond.Kids[1])
	if trap != 0 || other != 0 {
		return false, true
	}
	return true, holds(cond.Kind, x, y)
}

// provedRuns counts what promises 21 and 22 were asked of.
type provedRuns struct{ programs, held, asked, proved, written, cells, trapped int }

// claim: promise 21 of the states of runs.
func (k *provedRuns) claim(t *testing.T, n impl.Node, a impl.Abs, point int, cond impl.Node, states []impl.Conf) {
	t.Helper()
	if !impl.Holds(n, a, cond) {
		return
	}
	k.held++
	for _, c := range states {
		if c.Point != point {
			continue
		}
		isAsked, isSo := keepsClaim(n, c, cond)
		if !isSo {
			t.Fatalf("%s: %s holds in %v, but not in %v", shown(n), impl.ExprText(cond), a, c)
		}
		if isAsked {
			k.asked++
		} else {
			k.trapped++
		}
	}
}

// arrays: promise 22 of the states of runs.
func (k *provedRuns) arrays(t *testing.T, n impl.Node, a impl.Abs, point int, states []impl.Conf) {
	t.Helper()
	for array := range impl.ArraysOf(n) {
		all, r := impl.AllWritten(n, a, array), impl.CellsRange(n, a, array)
		for _, c := range states {
			if c.Point != point {
				continue
			}
			for at, cell := range c.Cells[array] {
				if all && !cell.Written || cell.Written && !impl.RangeHas(r, cell.Num) {
					t.Fatalf("%s: array %d of %v: %v and %v, but %d of %v", shown(n), array, a, all, r, at, c)
				}
				if k.cells++; all {
					k.written++
				}
			}
		}
	}
}

// Promises 21 and 22 along the runs of programs that are solved.
func TestClaimsOfRuns(t *testing.T) {
	next := draws(1902)
	var k provedRuns
	for range 110 {
		n, _ := drawnProgram(t, next)
		points := impl.Solve(n).Points
		along := statesAlong(n, next)
		k.programs++
		for point, a := range points {
			for range 3 {
				k.claim(t, n, a, point, drawnClaim(next, n, a), along)
			}
			k.arrays(t, n, a, point, along)
		}
		for range 3 {
			// Also points to which a run has come.
			point := along[next(len(along))].Point
			cond := drawnClaim(next, n, points[point])
			is, code := impl.Proves(n, point, cond)
			if code != impl.OK || is != impl.Holds(n, points[point], cond) {
				t.Fatalf("%s: %s at %d: %v, code %d", shown(n), impl.ExprText(cond), point, is, code)
			}
			if is {
				k.proved++
				k.claim(t, n, points[point], point, cond, along)
			}
		}
	}
	if k.held < 1000 || k.asked < 3000 || k.proved < 60 || k.written < 1000 || k.cells < 5000 {
		t.Fatalf("%+v", k)
	}
}

// Promises 21 and 22 of whatever is told: in each state that it has.
func TestClaimsOfStates(t *testing.T) {
	next := draws(1903)
	var k provedRuns
	for range 60 {
		n := runProgram(t, next)
		if impl.Check(n).Code != impl.OK {
			continue
		}
		states := statesOfRuns(next, n, 12)
		for range 8 {
			a := absDrawn(next, n, states, nothing())
			var had []impl.Conf
			for _, c := range states {
				if hasByParts(a, c) {
					had = append(had, with(c, func(c *impl.Conf) { c.Point = 0 }))
				}
			}
			for range 6 {
				k.claim(t, n, a, 0, drawnClaim(next, n, a), had)
			}
			k.arrays(t, n, a, 0, had)
		}
	}
	if k.held < 700 || k.asked < 800 || k.written < 200 || k.cells < 1200 {
		t.Fatalf("%+v", k)
	}
}

// Promise 21 of small facts: in all small states that they have.
func TestSmallClaims(t *testing.T) {
	n := tree(t, "var i; var j; skip;")
	var list []impl.Node
	for kind := impl.CdLess; kind <= impl.CdOther; kind++ {
		for _, sides := range [][2]string{{"i", "j"}, {"i + 1", "j"}, {"j", "i - 1"}, {"i", "1"}, {"0", "j"}, {"i + j", "1"}, {"i * j", "i"}, {"-i", "j"}, {"i - j", "1"}} {
			list = append(list, node(kind, exprOf(t, sides[0]), exprOf(t, sides[1])))
		}
	}
	next := draws(1904)
	held, unheld := 0, 0
	for at, f := range smallFacts([]int{-1, 0, 1, 2, bound}) {
		if next(2) > 0 {
			continue
		}
		a := impl.Abs{Facts: f}
		var states []impl.Conf
		for i := -3; i <= 3; i++ {
			for j := -3; j <= 3; j++ {
				if c := (impl.Conf{Vars: []int{i, j}}); hasByParts(a, c) {
					states = append(states, c)
				}
			}
		}
		cond := list[(at+next(len(list)))%len(list)]
		holdsInAll := true
		for _, c := range states {
			_, isSo := keepsClaim(n, c, cond)
			holdsInAll = holdsInAll && isSo
		}
		switch got := impl.Holds(n, a, cond); {
		case got && !holdsInAll:
			t.Fatalf("%s holds in %v", impl.ExprText(cond), f)
		case got:
			held++
		default:
			unheld++
		}
	}
	if held < 100 || unheld < 100 {
		t.Fatal(held, unheld)
	}
}

// Nothing is written into an argument nor behind it, and what is behind it is not
// read; the same is told again.
func TestArgumentsOfClaimsAreKept(t *testing.T) {
	plain := twoArrays(t)
	n := roomyTree(plain)
	for at, one := range manyTold(t) {
		a := roomyAbs(one)
		for _, text := range []string{"i < j", "i != 3", "len(a) - 1 >= i", "i * j == -j", "a[i] < 3", "k == i"} {
			cond := roomyTree(condOf(t, text))
			for range 2 {
				if got := impl.Holds(n, a, cond); got != claimByWords(plain, one, condOf(t, text)) {
					t.Fatalf("%s in %v: %v", text, one, got)
				}
			}
			if at == 0 {
				before, code := impl.Proves(n, 6, cond)
				if again, other := impl.Proves(n, 6, cond); again != before || other != code {
					t.Fatalf("%s: %v, then %v", text, before, again)
				}
			}
			if wantRoom(t, a, one); !hasRoom(cond) || !sameTree(cond, condOf(t, text)) {
				t.Fatal(cond)
			}
		}
		for array := -1; array < 3; array++ {
			all, r := cellsByParts(plain, one, array)
			for range 2 {
				if got, cells := impl.AllWritten(n, a, array), impl.CellsRange(n, a, array); got != all || cells != r {
					t.Fatalf("array %d of %v: %v, %v", array, one, got, cells)
				}
			}
			wantRoom(t, a, one)
		}
	}
	if !hasRoom(n) || !sameTree(n, plain) {
		t.Fatal(n)
	}
}

// Calls at the same time give the same, with the same arguments.
func TestClaimsAtTheSameTime(t *testing.T) {
	n := tree(t, "var i; array a[?]; for i from 0 to len(a) { a[i] = 7; }")
	points := impl.Solve(n).Points
	spent := tree(t, "var i; var j; var k; var l; "+nestOf(4))
	var workers sync.WaitGroup
	for point, a := range points {
		for _, text := range []string{"i < len(a)", "i == len(a)", "i >= 0", "i < 0", "a[0] == 7"} {
			cond := condOf(t, text)
			holds, code := claimByWords(n, a, cond), impl.OK
			if text == "a[0] == 7" {
				code = impl.ErrForm
			}
			all, r := cellsByParts(n, a, 0)
			for range 3 {
				workers.Add(1)
				go func() {
					defer workers.Done()
					if got, other := impl.Proves(n, point, cond); got != holds || other != code || impl.Holds(n, a, cond) != holds {
						t.Errorf("%s at %d: %v, code %d", text, point, got, other)
					}
					if impl.AllWritten(n, a, 0) != all || impl.CellsRange(n, a, 0) != r {
						t.Errorf("%v: not %v and %v", a, all, r)
					}
				}()
			}
		}
	}
	for range 4 {
		workers.Add(1)
		go func() {
			defer workers.Done()
			if got, code := impl.Proves(spent, 3, condOf(t, "i == i")); got || code != impl.ErrBudget {
				t.Errorf("%v, code %d", got, code)
			}
		}()
	}
	workers.Wait()
}
