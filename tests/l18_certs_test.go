package tests

import (
	"fmt"
	"math"
	"slices"
	"strconv"
	"strings"
	"sync"
	"testing"

	"loop.example/g00093/impl"
)

func digit(flag bool) int {
	if flag {
		return 1
	}
	return 0
}

// lineOf: a line of a certificate, of an Abs that need not be ok.
func lineOf(a impl.Abs) string {
	if isNothing(a) {
		return "0"
	}
	line := strings.Builder{}
	line.WriteString("1")
	for _, most := range a.Facts.Most {
		fmt.Fprint(&line, " ", most)
	}
	for _, s := range a.Segs {
		fmt.Fprint(&line, " ", len(s.Bounds))
		for _, bound := range s.Bounds {
			fmt.Fprint(&line, " ", len(bound))
			for _, term := range bound {
				fmt.Fprintf(&line, " %d %d", term.V, term.C)
			}
		}
		for at, v := range s.Vals[:min(len(s.Vals), len(s.Maybe))] {
			fmt.Fprintf(&line, " %d %d %d %d", v.R.Lo, v.R.Hi, digit(v.Sure), digit(s.Maybe[at]))
		}
	}
	return line.String()
}

func linesOf(list []impl.Abs) string {
	var lines []string
	for _, a := range list {
		lines = append(lines, lineOf(a)+"\n")
	}
	return strings.Join(lines, "")
}

// certByParts: the certificate of a list for a right program, told otherwise.
func certByParts(n impl.Node, list []impl.Abs) string {
	if len(list) != impl.GraphOf(n).Points || slices.ContainsFunc(list, func(a impl.Abs) bool { return !isAbsByParts(n, a) }) {
		return ""
	}
	if text := linesOf(list); len(text) <= 400000 {
		return text
	}
	return ""
}

// A lineReader reads a line word by word, and fails at the first one that cannot
// stand where it does.
type lineReader struct {
	words []string
	bad   bool
}

func (r *lineReader) number(lo, hi int) int {
	if r.bad || len(r.words) == 0 {
		r.bad = true
		return 0
	}
	num, err := strconv.Atoi(r.words[0])
	r.bad = err != nil || strconv.Itoa(num) != r.words[0] || num < lo || num > hi
	r.words = r.words[1:]
	return num
}

func (r *lineReader) seg(size int) impl.Seg {
	var s impl.Seg
	for count := r.number(1, 16); count > 0 && !r.bad; count-- {
		var terms []impl.Sym
		for left := r.number(1, 40); left > 0 && !r.bad; left-- {
			v := r.number(0, size-1)
			terms = append(terms, sym(v, r.number(-1000, 1000)))
		}
		s.Bounds = append(s.Bounds, terms)
	}
	for range max(len(s.Bounds), 1) - 1 {
		lo := r.number(-bound, bound)
		hi := r.number(-bound, bound)
		s.Vals = append(s.Vals, impl.Val{R: span(lo, hi), Sure: r.number(0, 1) == 1})
		s.Maybe = append(s.Maybe, r.number(0, 1) == 1)
	}
	return s
}

func (r *lineReader) abs(n impl.Node) impl.Abs {
	if r.number(0, 1) == 0 {
		return nothing()
	}
	arrays := len(impl.ArraysOf(n))
	size := 1 + len(impl.VarsOf(n)) + arrays
	a := impl.Abs{Facts: impl.Facts{Size: size}}
	for range size * size {
		a.Facts.Most = append(a.Facts.Most, r.number(-gap, gap))
	}
	for range arrays {
		a.Segs = append(a.Segs, r.seg(size))
	}
	return a
}

// readByWords: the list of which a text is the certificate for a right program,
// told otherwise.
func readByWords(n impl.Node, text string) ([]impl.Abs, bool) {
	lines := strings.Split(text, "\n")
	last := len(lines) - 1
	if last != impl.GraphOf(n).Points || lines[last] != "" || len(text) > 400000 {
		return nil, false
	}
	var list []impl.Abs
	for _, line := range lines[:last] {
		r := lineReader{words: strings.Split(line, " ")}
		a := r.abs(n)
		if r.bad || len(r.words) > 0 || !isAbsByParts(n, a) {
			return nil, false
		}
		list = append(list, a)
	}
	return list, true
}

// wantRead: what is read of a text is as it is read otherwise; with a false it is
// empty.
func wantRead(t *testing.T, n impl.Node, text string) bool {
	t.Helper()
	want, isRead := readByWords(n, text)
	got, ok := impl.CertRead(n, text)
	if ok != isRead || !sameList(got, want) || !ok && len(got) > 0 {
		t.Fatalf("%s: %.2000q: %v, %v, want %v, %v", shown(n), text, got, ok, want, isRead)
	}
	if ok && impl.CertText(n, got) != text {
		t.Fatalf("%s: %.2000q: %q", shown(n), text, impl.CertText(n, got))
	}
	return ok
}

// wantUnread: a text of which nothing is read.
func wantUnread(t *testing.T, n impl.Node, text string, about ...any) {
	t.Helper()
	if wantRead(t, n, text) || impl.CertCheck(n, text) != impl.ErrForm {
		t.Fatalf("%s: %v: %.2000q", shown(n), about, text)
	}
}

// wantCert: the certificate of a list is as it is written otherwise, it is read
// back, and the list is left as it was.
func wantCert(t *testing.T, n impl.Node, list []impl.Abs) string {
	t.Helper()
	before := copyList(list)
	got := impl.CertText(n, list)
	if want := certByParts(n, list); got != want {
		t.Fatalf("%s: %v: %.2000q, want %.2000q", shown(n), list, got, want)
	}
	if !sameList(list, before) {
		t.Fatalf("%v has become %v", before, list)
	}
	if read, ok := impl.CertRead(n, got); ok != (got != "") || ok && !sameList(read, list) {
		t.Fatalf("%s: %.2000q: %v, %v, want %v", shown(n), got, read, ok, list)
	}
	return got
}

// checkByParts: what is to be said of a certificate, told otherwise.
func checkByParts(t *testing.T, n impl.Node, text string) int {
	t.Helper()
	list, isRead := readByWords(n, text)
	if !isRead {
		return 4
	}
	if !leqByParts(startByParts(n), list[0]) {
		return 10
	}
	r := roundsOf(t, n)
	for at, e := range r.edges {
		if !leqByParts(r.over(at, list[e.From]), list[e.To]) {
			return 11
		}
	}
	return 0
}

func wantCheck(t *testing.T, n impl.Node, text string, want int, about ...any) {
	t.Helper()
	if got := impl.CertCheck(n, text); got != want || checkByParts(t, n, text) != want {
		t.Fatalf("%s: %v: %.2000q: %d, want %d", shown(n), about, text, got, want)
	}
}

func TestCertConstants(t *testing.T) {
	if impl.MaxCert != 400000 || impl.ErrStart != 10 || impl.ErrStep != 11 {
		t.Fatal(impl.MaxCert, impl.ErrStart, impl.ErrStep)
	}
}

func TestCertText(t *testing.T) {
	n := tree(t, "skip;")
	for want, list := range map[string][]impl.Abs{
		"1 0\n1 0\n1 0\n": tops(n),
		"0\n0\n0\n":       make([]impl.Abs, 3),
		"0\n1 0\n0\n":     put(make([]impl.Abs, 3), 1, topOf(0, 0)),
		"1 0\n0\n1 0\n":   put(tops(n), 1, impl.Abs{Facts: factsOf(0, []int{}...), Segs: []impl.Seg{}}),
	} {
		if got := wantCert(t, n, list); got != want {
			t.Fatalf("%q, want %q", got, want)
		}
	}
	n = twoArrays(t)
	for want, a := range map[string]impl.Abs{
		"0": nothing(),
		// The numbers of Most row by row, as they stand; the terms behind their count,
		// bound by bound; what is between two bounds, one behind the other.
		"1 0 -1 1000000 1000000 1000000 1000000 0 2000000 2000000 2000000 1000000 2000000 0 2000000 2000000 1000000 2000000 2000000 0 2000000 1000000 2000000 2000000 2000000 0 3 1 0 0 1 1 0 1 3 0 1 1 1 0 1 0 0 1 2 1 0 0 1 4 0 2 3 0 1": told(t, "i >= 1", plainA, plainB),
		"1 0 1000000 1000000 1000000 1000000 1000000 0 -1 2000000 2000000 1000000 0 0 2000000 2000000 1000000 2000000 2000000 0 2000000 1000000 2000000 2000000 2000000 0 1 2 0 0 3 0 1 3 0 0 0 9 4 0":                                     {Facts: noneSaid(), Segs: []impl.Seg{seg(t, "{0, len(a)}"), seg(t, "{0, 9, len(b)}")}},
		"1 0 1000000 5 1000000 1000000 1000000 0 -3 2000000 2000000 7 2000000 0 2000000 2000000 1000000 2000000 2000000 0 -2000000 1000000 2000000 2000000 2000000 0 " +
			"2 1 0 0 2 3 -1000 3 0 1 0 0 0 4 2 0 -2 0 0 1 1 -7 1 2 1 1 4 0 -1000000 -2 1 1 1 0 1 0 -5 1000000 0 0": {Facts: putFact(putFact(putFact(putFact(capsOf(segSize), 0, 2, 5), 1, 2, -3), 2, 0, 7), 3, 4, -gap), Segs: []impl.Seg{seg(t, "{0} none or unwritten {len(a) - 1000, len(a)}"), seg(t, "{-2, 0} -1000000..-2 ? {i - 7} none {j + 1} -5..1000000 or unwritten {len(b)}")}},
	} {
		list := make([]impl.Abs, 7)
		for point := range list {
			lines := slices.Repeat([]string{"0\n"}, 7)
			lines[point] = want + "\n"
			if got := wantCert(t, n, put(list, point, a)); got != strings.Join(lines, "") {
				t.Fatalf("%v: %q, want %q", a, got, want)
			}
		}
		if got := wantCert(t, n, slices.Repeat([]impl.Abs{a}, 7)); got != strings.Repeat(want+"\n", 7) {
			t.Fatalf("%v: %q, want %q", a, got, want)
		}
	}
}

// All that can be told, as it stands: it is read back with facts that are not
// closed, and with bounds between which there is no cell.
func TestCertsOfStatesAsTheyStand(t *testing.T) {
	n := twoArrays(t)
	all := append(manyTold(t), becomeNothing(t)...)
	for at, a := range all {
		list := slices.Repeat([]impl.Abs{a}, 7)
		for point := range list {
			list[point] = all[(at+point)%len(all)]
		}
		if wantCert(t, n, list) == "" {
			t.Fatal(list)
		}
	}
	for _, v := range valsOver(farEnds()) {
		for _, maybe := range []bool{false, true} {
			row := impl.Seg{Bounds: [][]impl.Sym{{sym(0, 0)}, {sym(4, 0)}}, Vals: []impl.Val{v}, Maybe: []bool{maybe}}
			a := impl.Abs{Facts: capsOf(segSize), Segs: []impl.Seg{seg(t, plainA), row}}
			if text := wantCert(t, n, put(tops(n), 3, a)); !strings.Contains(text, fmt.Sprintf(" 0 0 1 4 0 %d %d %d %d\n", v.R.Lo, v.R.Hi, digit(v.Sure), digit(maybe))) {
				t.Fatalf("%v, %v: %q", v, maybe, text)
			}
		}
	}
	for _, s := range okRows(t) {
		if a := (impl.Abs{Facts: capsOf(segSize), Segs: []impl.Seg{s, seg(t, plainB)}}); wantCert(t, n, put(tops(n), 5, a)) == "" {
			t.Fatal(s)
		}
	}
}

// Each count of variables and arrays.
func TestCountsOfCerts(t *testing.T) {
	for vars := range 9 {
		for arrays := range 5 {
			n := declared(t, vars, slices.Repeat([]string{"?"}, arrays)...)
			size := 1 + vars + arrays
			text := wantCert(t, n, tops(n))
			words := strings.Fields(strings.SplitAfter(text, "\n")[0])
			// Each array has two bounds of one Sym, and one Val.
			if len(words) != 1+size*size+arrays*11 || strings.Count(text, "\n") != 3 {
				t.Fatalf("%d and %d: %q", vars, arrays, text)
			}
			wantCheck(t, n, text, 0)
			for other := range 5 {
				for more := range 9 {
					m := declared(t, more, slices.Repeat([]string{"?"}, other)...)
					if list, isRead := impl.CertRead(m, text); isRead != (other == arrays && more == vars) || !isRead && len(list) > 0 || (impl.CertText(m, tops(n)) != "") != isRead {
						t.Fatalf("%d and %d for %d and %d", vars, arrays, more, other)
					}
				}
			}
		}
	}
}

func TestCertTextOfWrongLists(t *testing.T) {
	n := twoArrays(t)
	for _, n := range append(solvedPrograms(t), n) {
		list := tops(n)
		count := len(list)
		for _, other := range [][]impl.Abs{nil, {}, list[:1], list[1:], list[:count-1], append(copyList(list), list[0]), append(copyList(list), nothing()), make([]impl.Abs, count-1), make([]impl.Abs, count+1), make([]impl.Abs, 100000)} {
			if len(other) != count && impl.CertText(n, other) != "" {
				t.Fatalf("%s: %d points", shown(n), len(other))
			}
		}
	}
	list := tops(n)
	for at, wrong := range wrongAbs(t) {
		for _, point := range []int{0, 3, 6} {
			if got := impl.CertText(n, put(list, point, wrong)); got != "" {
				t.Fatalf("%d: %v at %d: %q", at, wrong, point, got)
			}
		}
		// It could be written, but it is not read.
		if line := lineOf(wrong); len(line) < 10000 {
			for _, point := range []int{0, 3, 6} {
				wantRead(t, n, linesOf(list[:point])+line+"\n"+linesOf(list[point+1:]))
			}
		}
	}
}

// wideProgram: one with the most symbols and so many points.
func wideProgram(t *testing.T, points int) impl.Node {
	t.Helper()
	return tree(t, "var a; var b; var c; var d; var e; var f; var g; var h; array i[?]; array j[?]; array k[?]; array l[?]; "+strings.Repeat("skip;", points-2))
}

// shortened: a list whose certificate has just so many bytes fewer.
func shortened(list []impl.Abs, fewer int) []impl.Abs {
	list = copyList(list)
	for _, a := range list {
		for at, most := range a.Facts.Most {
			digits := len(strconv.Itoa(most))
			if cut := min(fewer, digits-1); most > 9 {
				fewer -= cut
				a.Facts.Most[at] = int(math.Pow10(digits - 1 - cut))
			}
		}
	}
	return list
}

// A text of just the most bytes is written and read; one with a byte more is not.
func TestLongestCerts(t *testing.T) {
	for _, points := range []int{300, 420} {
		n := wideProgram(t, points)
		list := tops(n)
		long := linesOf(list)
		if len(list) != points || len(long) <= 400000 {
			t.Fatal(len(list), len(long))
		}
		for _, most := range []int{400000, 399999, 390000, 900 * points} {
			short := shortened(list, len(long)-most)
			text := impl.CertText(n, short)
			if text != linesOf(short) || len(text) != most {
				t.Fatalf("%d bytes, want %d", len(text), most)
			}
			read, isRead := impl.CertRead(n, text)
			if !isRead || !sameList(read, short) {
				t.Fatalf("%d bytes are not read", most)
			}
			if code := impl.CertCheck(n, text); code != impl.ErrStart && code != impl.ErrStep && code != impl.OK {
				t.Fatalf("%d bytes: code %d", most, code)
			}
		}
		for _, most := range []int{400001, 400002, 400100, len(long)} {
			longer := shortened(list, len(long)-most)
			text := linesOf(longer)
			if got := impl.CertText(n, longer); len(text) != most || got != "" {
				t.Fatalf("%d bytes: %d", most, len(got))
			}
			if read, isRead := impl.CertRead(n, text); isRead || len(read) > 0 || impl.CertCheck(n, text) != impl.ErrForm {
				t.Fatalf("%d bytes are read", most)
			}
		}
	}
	// One line alone of so many bytes, and texts of any length.
	n := tree(t, "var i; skip;")
	for _, text := range []string{
		strings.Repeat("\n", 1000000), strings.Repeat("0\n", 1000000), strings.Repeat("0 ", 1000000) + "\n0\n0\n", strings.Repeat("1 0 0 0 0 ", 1000000), "0\n0\n0" + strings.Repeat("0", 1000000) + "\n",
		"1 0 0 0 0\n1 0 0 0 " + strings.Repeat("0", 399978) + "\n0\n", "1 0 0 0 0\n1 0 0 0 0" + strings.Repeat(" 0", 199975) + "\n0\n", strings.Repeat("\xff", 1000000),
	} {
		if read, isRead := impl.CertRead(n, text); isRead || len(read) > 0 || impl.CertCheck(n, text) != impl.ErrForm {
			t.Fatalf("%.100q is read", text)
		}
	}
}

// A program whose certificate is too long is solved, but has none.
func TestTooLongToCertify(t *testing.T) {
	const decl = "var a; var b; var c; var d; var e; var f; var g; var h; array i[?]; array j[?]; array k[?]; array l[?]; read a; read b; read c; read d; read e; read f; read g; read h; "
	for skips, isLong := range map[int]bool{250: false, 450: true} {
		n := tree(t, decl+strings.Repeat("skip;", skips))
		got := impl.Solve(n)
		long := linesOf(got.Wide)
		text := impl.CertOf(n)
		if got.Code != impl.OK || len(long) > 400000 != isLong || text != certByParts(n, got.Wide) || (text == "") != isLong {
			t.Fatalf("%d skips: %d bytes, want %d", skips, len(text), len(long))
		}
		if want := map[bool]int{false: impl.OK, true: impl.ErrForm}[isLong]; impl.CertCheck(n, text) != want {
			t.Fatalf("%d skips: code %d", skips, impl.CertCheck(n, text))
		}
	}
}

// certParts: a program with an array and three points, and a line for them.
func certParts(t *testing.T) (impl.Node, string) {
	t.Helper()
	n := tree(t, "var i; array a[?]; read i;")
	const line = "1 0 12 1000000 10 0 2000000 -7 30 0 3 1 0 0 2 1 -4 1 5 1 2 0 1 0 1 0 -3 9 0 1"
	if _, isRead := readByWords(n, line+"\n0\n"+line+"\n"); !isRead {
		t.Fatal(line)
	}
	return n, line
}

// placed: the texts in which a line stands at each point, between others.
func placed(line, other string) []string {
	return []string{line + "\n0\n" + other + "\n", other + "\n" + line + "\n0\n", "0\n" + other + "\n" + line + "\n"}
}

func TestCertRead(t *testing.T) {
	n, line := certParts(t)
	for _, text := range append(placed(line, line), placed("0", line)...) {
		if !wantRead(t, n, text) {
			t.Fatalf("%q", text)
		}
	}
	list, _ := impl.CertRead(n, "0\n"+line+"\n0\n")
	want := impl.Abs{Facts: factsOf(3, 0, 12, bound, 10, 0, gap, -7, 30, 0), Segs: []impl.Seg{{
		Bounds: [][]impl.Sym{{sym(0, 0)}, {sym(1, -4), sym(1, 5)}, {sym(2, 0)}},
		Vals:   []impl.Val{sure(noRange()), unsure(span(-3, 9))}, Maybe: []bool{false, true},
	}}}
	if len(list) != 3 || !isNothing(list[0]) || !isNothing(list[2]) {
		t.Fatal(list)
	}
	wantAbs(t, list[1], want)
	// Other forms of the same, and what is no form at all.
	for _, wrong := range []string{
		"", " ", "  ", "-", "x", "\t", "0 ", " 0", "0 0", "0 1", "00", "-0", "+0", "0x0", "0\t", "0\r", "\x000", "0\x00", "0,", "1", "1 0", "2", "-1", "1 1", "01", "+1",
		" " + line, line + " ", strings.Replace(line, " ", "  ", 1), strings.Replace(line, " 10 ", " 10  ", 1), strings.Replace(line, " ", "\t", 1), strings.ReplaceAll(line, " ", ","),
		line + "\r", line + "\x00", "\ufeff" + line, line + " 0", line + " 1", line + " " + line, "0 " + line, "2" + line[1:], "-1" + line[1:], "0" + line[1:], "01" + line[1:],
		line[2:], line[:len(line)-2], line[:len(line)-1], line + "0", strings.TrimSuffix(line, " 0 1") + " 2 0", strings.TrimSuffix(line, " 0 1") + " 0 2", strings.TrimSuffix(line, " 0 1") + " -1 0", strings.TrimSuffix(line, " 0 1") + " 0 -1",
		strings.Replace(line, " 10 ", " 1 0 ", 1), strings.Replace(line, " 10 ", "10", 1), strings.Replace(line, "-7", "- 7", 1), strings.Replace(line, "-7", "--7", 1), strings.Replace(line, "-7", "-07", 1), strings.Replace(line, "-7", "7-", 1), strings.Replace(line, "-7", "\u22127", 1),
	} {
		for _, text := range placed(wrong, line) {
			wantUnread(t, n, text, "a line in another form")
		}
	}
}

// Lines too few, too many, without their end, and such as have nothing in them.
func TestLinesOfCerts(t *testing.T) {
	n, line := certParts(t)
	text := line + "\n0\n" + line + "\n"
	for _, wrong := range []string{
		"", "\n", "\n\n", "\n\n\n", "0", "0\n", "0\n0\n", "0\n0\n0", "0\n0\n0\n\n", "\n0\n0\n0\n", "0\n\n0\n", "0\n\n0\n0\n", "0\n0\n0\n0\n", "0\n0\n0\n0", "0 0 0\n", "0\n0 0\n", "0\r\n0\r\n0\r\n", "0\n0\n0 \n", "0\n0\n0\n ",
		text[:len(text)-1], text + "\n", "\n" + text, text + "0\n", text + "0", text + text, text + " ", " " + text, text[:len(text)-1] + " \n", text[1:], text[:len(text)-2], strings.ReplaceAll(text, "\n", "\r\n"), strings.ReplaceAll(text, "\n", " "),
		strings.ReplaceAll(text, "\n", "\n\n"), strings.Replace(text, "\n", " ", 1), strings.Replace(text, "\n", "", 1), line + "\n" + line + "\n", line + "\n0\n0\n" + line + "\n", text + "x\n", "x\n" + text, text + "x", "\ufeff" + text, strings.ReplaceAll(text, "\n", "\v"), strings.ReplaceAll(text, "\n", "\u2028"),
	} {
		wantUnread(t, n, wrong, "lines in another form")
	}
	if !wantRead(t, n, text) || !wantRead(t, n, "0\n0\n0\n") {
		t.Fatal(text)
	}
	// Each byte of it left out, doubled, and another one in its place.
	reads := 0
	for at := range text {
		for _, turned := range []string{text[:at] + text[at+1:], text[:at+1] + text[at:]} {
			wantRead(t, n, turned)
		}
		for _, other := range "0123456789- \n\r\t+x\x00" {
			if wantRead(t, n, text[:at]+string(other)+text[at+1:]) {
				reads++
			}
		}
	}
	if reads < 200 {
		t.Fatal(reads)
	}
}

// spellings: words that are no number of a certificate, wherever they stand.
func spellings() []string {
	return []string{
		"", "-", "+", "--1", "1-", "-1-", "+1", "+0", "-0", "00", "01", "-01", "007", "- 1", "1.0", "1.", ".5", "1e1", "0x1", "0b1", "0o7", "1_0", "1_000", "i", "len(a)", "1,", "1;", "'1'", "\"1\"", "true", "nothing", "\t1", "1\t", "1\r", "1\x00", "\xff", "\u0661", "\uff11", "\u00b2", "\u2212" + "1",
		"9223372036854775808", "-9223372036854775809", "18446744073709551616", "18446744073709551617", "-18446744073709551615", "99999999999999999999999999999999", "-99999999999999999999999999999999",
	}
}

// Each number in its turn: spelt otherwise, and made another one.
func TestNumbersOfCerts(t *testing.T) {
	n, line := certParts(t)
	words := strings.Split(line, " ")
	reads := 0
	for at, word := range words {
		with := func(other string) []string {
			turned := slices.Clone(words)
			turned[at] = other
			return placed(strings.Join(turned, " "), line)
		}
		for _, other := range spellings() {
			for _, text := range with(other) {
				wantUnread(t, n, text, "number", at)
			}
		}
		num, _ := strconv.Atoi(word)
		for _, other := range []string{"0" + word, "+" + word, word + " 0", word + "0 ", word + ".0", word + "\n" + word} {
			for _, text := range with(other) {
				wantUnread(t, n, text, "number", at)
			}
		}
		for _, other := range append([]int{num - 2, num - 1, num, num + 1, num + 2, -num, 15, 16, 17, 39, 40, 41, 1000, 1001, -1000, -1001, 400000, math.MaxInt, math.MinInt, math.MaxInt32 + 1, 1 << 32}, farEnds()...) {
			for _, far := range []int{other, other + 1, other - 1} {
				for _, text := range with(strconv.Itoa(far)) {
					if wantRead(t, n, text) {
						reads++
					}
				}
			}
		}
		// One left out, and one twice.
		for _, list := range [][]string{slices.Delete(slices.Clone(words), at, at+1), slices.Insert(slices.Clone(words), at, word)} {
			for _, text := range placed(strings.Join(list, " "), line) {
				wantUnread(t, n, text, "number", at)
			}
		}
	}
	if reads < 1000 {
		t.Fatal(reads)
	}
}

// withRow: the certificate of a program with two arrays in which the row of one is
// this, at some point.
func withRow(t *testing.T, s impl.Seg, array, point int) (impl.Node, string) {
	t.Helper()
	n := twoArrays(t)
	a := told(t, "i >= 1", plainA, plainB)
	if array == 1 {
		s = copySeg(s)
		for _, bound := range s.Bounds {
			for at, term := range bound {
				if term == sym(3, 0) {
					bound[at] = sym(4, 0)
				}
			}
		}
	}
	a.Segs[array] = s
	list := tops(n)
	return n, linesOf(list[:point]) + lineOf(a) + "\n" + linesOf(list[point+1:])
}

// Counts at their limits and one past them, and bounds that are not as they are
// to be.
func TestRowsOfCerts(t *testing.T) {
	for array := range 2 {
		for _, point := range []int{0, 3, 6} {
			for _, count := range []int{1, 2, 15, 16} {
				for _, terms := range []int{1, 2} {
					if n, text := withRow(t, plainRow(count, terms), array, point); !wantRead(t, n, text) {
						t.Fatalf("%d bounds: %q", count, text)
					}
				}
			}
			for _, terms := range []int{2, 39, 40} {
				if n, text := withRow(t, plainRow(1, terms), array, point); !wantRead(t, n, text) {
					t.Fatalf("%d terms: %q", terms, text)
				}
			}
			for _, row := range []impl.Seg{plainRow(2, 20), plainRow(4, 10), plainRow(13, 3)} {
				if n, text := withRow(t, row, array, point); !wantRead(t, n, text) {
					t.Fatalf("%v: %q", row, text)
				}
			}
			wrong := []impl.Seg{{}, plainRow(17, 1), plainRow(18, 1), plainRow(16, 3), plainRow(1, 41), plainRow(2, 21), plainRow(14, 3), plainRow(40, 1), plainRow(41, 1), {Bounds: [][]impl.Sym{{}}}, {Bounds: [][]impl.Sym{{}, {}}, Vals: []impl.Val{noCell()}, Maybe: []bool{true}}}
			for _, text := range []string{
				"{0} 1..1 {} 2..2 {len(a)}", "{} 1..1 {0} 2..2 {len(a)}", "{0} 1..1 {len(a)} 2..2 {}", "{i, 0} 1..1 {len(a)}", "{0} 1..1 {len(a), j}", "{0} 1..1 {i, i - 1} 2..2 {len(a)}", "{0, 0} 1..1 {len(a)}", "{0} 1..1 {i, i} 2..2 {len(a)}",
				"{0, i} 1..1 {i} 2..2 {len(a)}", "{0} 1..1 {j} 2..2 ? {j} none {len(a)}", "{1} 1..1 {len(a)}", "{0} 1..1 {i}", "{i} 1..1 {len(a)}", "{len(a)} 1..1 {0}", "{0, len(a)} 1..1 {len(a)}", "{0} 1..1 {len(a) - 1}",
			} {
				wrong = append(wrong, seg(t, text))
			}
			for _, row := range wrong {
				n, text := withRow(t, row, array, point)
				wantUnread(t, n, text, row)
			}
		}
	}
}

// Bytes that turn a line anywhere, of programs with other declarations.
func TestTurnedTexts(t *testing.T) {
	next := draws(1800)
	reads, asked := 0, 0
	for _, n := range solvedPrograms(t) {
		text := impl.CertOf(n)
		if !wantRead(t, n, text) {
			t.Fatalf("%s: %q", shown(n), text)
		}
		for range 300 {
			turned := []byte(text)
			for range 1 + next(2) {
				at := next(len(turned))
				switch next(3) {
				case 0:
					turned = slices.Delete(turned, at, at+1)
				case 1:
					turned = slices.Insert(turned, at, "0123456789- \n"[next(13)])
				case 2:
					turned[at] = "0123456789- \n"[next(13)]
				}
			}
			if asked++; wantRead(t, n, string(turned)) {
				reads++
			}
		}
	}
	if reads < 200 || asked-reads < 200 {
		t.Fatal(reads, asked)
	}
}

// What is said of a program that is not right, whatever it comes with.
func TestCertsOfWrongPrograms(t *testing.T) {
	texts := []string{"", "0\n", "1 0\n", "x", strings.Repeat("0", 500000)}
	for points := 1; points < 8; points++ {
		texts = append(texts, strings.Repeat("0\n", points), strings.Repeat("1 0\n", points), strings.Repeat("1 0 0 0 0\n", points), strings.Repeat(lineOf(topOf(1, 1))+"\n", points))
	}
	for at, n := range wrongPrograms(t) {
		if text := impl.CertOf(n); text != "" {
			t.Fatalf("%d: %q", at, text)
		}
		for _, text := range texts {
			if list, isRead := impl.CertRead(n, text); isRead || len(list) > 0 {
				t.Fatalf("%d: %q is read", at, text)
			}
			if code := impl.CertCheck(n, text); code != impl.ErrForm {
				t.Fatalf("%d: %q: code %d", at, text, code)
			}
		}
		for points := range 8 {
			for _, one := range []impl.Abs{nothing(), topOf(0, 0), topOf(1, 0), topOf(1, 1), {Segs: make([]impl.Seg, 1)}} {
				if text := impl.CertText(n, slices.Repeat([]impl.Abs{one}, points)); text != "" {
					t.Fatalf("%d: %q", at, text)
				}
			}
		}
	}
}

// The first line just AbsStart, more than it, and less.
func TestStartsOfCerts(t *testing.T) {
	for _, n := range append(solvedPrograms(t), tree(t, "skip;"), twoArrays(t)) {
		all, wide := tops(n), impl.Solve(n).Wide
		start := impl.AbsStart(n)
		for _, list := range [][]impl.Abs{all, wide, put(all, 0, start), put(wide, 0, start)} {
			wantCheck(t, n, linesOf(list), 0, "a start")
			wantCheck(t, n, linesOf(put(list, 0, nothing())), 10, "no start")
		}
		for at, most := range start.Facts.Most {
			i, j := at/start.Facts.Size, at%start.Facts.Size
			if i == j {
				continue
			}
			more := remade(start, func(a *impl.Abs) { a.Facts.Most[at] = min(most+1, capAt(i, j)) })
			less := remade(start, func(a *impl.Abs) { a.Facts.Most[at] = most - 1 })
			wantCheck(t, n, linesOf(put(all, 0, more)), 0, "more", i, j)
			wantCheck(t, n, linesOf(put(all, 0, less)), 10, "less", i, j)
			// Then a step leads out of the next one, too: the start is said first.
			wantCheck(t, n, linesOf(put(make([]impl.Abs, len(all)), 0, less)), 10, "less", i, j)
		}
		for array, s := range start.Segs {
			for at := range s.Vals {
				less := remade(start, func(a *impl.Abs) { a.Segs[array].Vals[at] = sure(span(-bound, bound)) })
				wantCheck(t, n, linesOf(put(all, 0, less)), 10, "cells")
				more := remade(start, func(a *impl.Abs) { a.Segs[array].Vals[at] = unsure(span(3, 4)) })
				wantCheck(t, n, linesOf(put(all, 0, more)), 0, "cells")
			}
		}
	}
	// What becomes nothing when it is normed is no start either.
	n := tree(t, "var i; array a[?]; var j; array b[?]; skip;")
	for _, none := range becomeNothing(t) {
		wantCheck(t, n, linesOf(put(tops(n), 0, none)), 10, none)
	}
}

// What comes first: the form ahead of the start, and that ahead of the steps.
func TestOrderOfChecks(t *testing.T) {
	asked := 0
	for _, n := range solvedPrograms(t) {
		wide := impl.Solve(n).Wide
		wrongStep := copyList(wide)
		for at, e := range impl.GraphOf(n).Edges {
			if e.From == 0 || isNothing(impl.AbsEdge(n, wide[e.From], at)) {
				continue
			}
			wrongStep[e.To] = nothing()
			asked++
			break
		}
		hasStep := !sameList(wrongStep, wide)
		for _, badStart := range []bool{false, true} {
			for _, badStep := range []bool{false, true} {
				list, want := wide, 0
				if badStep && hasStep {
					list, want = wrongStep, 11
				}
				if badStart {
					list, want = put(list, 0, nothing()), 10
				}
				text := linesOf(list)
				wantCheck(t, n, text, want, badStart, badStep)
				for _, wrong := range []string{text + "\n", text + "0\n", text[:len(text)-1], " " + text, text[:len(text)-1] + " \n", strings.Replace(text, "0", "00", 1), strings.Replace(text, "0", "-0", 1), text[strings.Index(text, "\n")+1:], ""} {
					wantCheck(t, n, wrong, 4, badStart, badStep)
				}
			}
		}
	}
	if asked < 6 {
		t.Fatal(asked)
	}
	n := tree(t, "var i; i = 1; skip;")
	for text, want := range map[string]int{
		"1 0 0 0 0\n1 0 -1 1 0\n1 0 -1 1 0\n1 0 -1 1 0\n":  0,
		"1 0 0 0 0\n1 0 -1 1 0\n1 0 -1 1 0\n1 0 -1 0 0\n":  11,
		"1 0 0 0 0\n1 0 -1 1 0\n1 0 0 0 0\n1 0 -1 1 0\n":   11,
		"1 0 0 0 0\n1 0 -2 2 0\n1 0 -2 2 0\n1 0 -2 2 0\n":  11,
		"1 0 0 0 0\n0\n1 0 -1 1 0\n1 0 -1 1 0\n":           11,
		"1 0 0 0 0\n0\n0\n0\n":                             11,
		"0\n0\n0\n0\n":                                     10,
		"0\n1 0 -1 1 0\n0\n0\n":                            10,
		"1 0 -1 1 0\n1 0 -2 2 0\n1 0 -2 2 0\n1 0 -2 2 0\n": 10,
		"1 0 0 0 0\n1 0 -1 1 0\n1 0 -1 1 0\n":              4,
		"0\n0\n0\n":                                        4,
		"0\n0\n0\n0":                                       4,
		"0\n1 0 -1 1 0\n0\n0 0\n":                          4,
	} {
		wantCheck(t, n, text, want)
	}
}

// Each edge is asked: an edge to a head, one that leads back, one to the exit, and
// those from what is nothing, which lead nowhere.
func TestStepsOfCerts(t *testing.T) {
	steps, backs, heads, still := 0, 0, 0, 0
	for _, n := range append(solvedPrograms(t), tree(t, "var i; read i; stop; i = 2; while i < 9 { i = i + 1; }")) {
		wide := impl.Solve(n).Wide
		r := roundsOf(t, n)
		for at, e := range r.edges {
			others := nothing()
			for other, f := range r.edges {
				if f.To == e.To && other != at {
					others = joinByParts(others, r.over(other, wide[f.From]))
				}
			}
			want := 0
			if !leqByParts(r.over(at, wide[e.From]), others) {
				want = 11
				steps++
			}
			less := put(wide, e.To, others)
			wantCheck(t, n, linesOf(less), want, "without edge", at)
			_, isHead := r.lasts[e.To]
			switch {
			case want == 11 && e.To < e.From:
				backs++
			case want == 11 && isHead:
				heads++
			}
			if isNothing(wide[e.From]) && e.From > 0 {
				// From nothing there comes nothing.
				wantCheck(t, n, linesOf(put(wide, e.To, joinByParts(others, nothing()))), 0, "from nothing")
				still++
			}
		}
		for point, a := range wide {
			want := 11
			switch {
			case isNothing(a):
				want = 0
			case point == 0:
				want = 10
			}
			wantCheck(t, n, linesOf(put(wide, point, nothing())), want, "nothing", point)
		}
	}
	if steps < 45 || backs < 5 || heads < 5 || still < 10 {
		t.Fatal(steps, backs, heads, still)
	}
}

func TestCertOf(t *testing.T) {
	for text, want := range map[string]string{
		"skip;":                      "1 0\n1 0\n1 0\n",
		"var i;":                     "1 0 0 0 0\n1 0 0 0 0\n",
		"var i; stop; i = 1;":        "1 0 0 0 0\n0\n0\n1 0 0 0 0\n",
		"var i; read i;":             "1 0 0 0 0\n1 0 1000000 1000000 0\n1 0 1000000 1000000 0\n",
		"array a[0];":                "1 0 0 0 0 1 2 0 0 1 0\n1 0 0 0 0 1 2 0 0 1 0\n",
		"array a[1]; a[0] = 9;":      "1 0 -1 1 0 2 1 0 0 2 0 1 1 0 1 0 0 0\n1 0 -1 1 0 2 1 0 0 2 0 1 1 0 9 9 1 0\n1 0 -1 1 0 2 1 0 0 2 0 1 1 0 9 9 1 0\n",
		"array a[?]; a[len(a)] = 1;": "1 0 0 60 0 2 1 0 0 1 1 0 1 0 0 1\n0\n0\n",
		// Ahead of the last pass: what goes around the loop has no greatest number.
		"var i; i = 1; while i < 2 + 1 { i = i + 1; }": "1 0 0 0 0\n1 0 -1 1 0\n1 0 -1 1000000 0\n1 0 -1 2 0\n1 0 -2 3 0\n1 0 -3 1000000 0\n1 0 -3 1000000 0\n",
	} {
		n := tree(t, text)
		if got := impl.CertOf(n); got != want {
			t.Fatalf("%s: %q, want %q", text, got, want)
		}
		wantCheck(t, n, want, 0)
	}
	closer := 0
	for _, n := range append(solvedPrograms(t), tree(t, "var i; i = 1; while i < 2 + 1 { i = i + 1; }")) {
		got, _ := wantSolve(t, n)
		if text := impl.CertOf(n); text != certByParts(n, got.Wide) || text != wantCert(t, n, got.Wide) || text == "" {
			t.Fatalf("%s: %q", shown(n), text)
		}
		if !sameList(got.Wide, got.Points) {
			closer++
			if impl.CertOf(n) == wantCert(t, n, got.Points) {
				t.Fatalf("%s", shown(n))
			}
		}
	}
	if closer < 4 {
		t.Fatal(closer)
	}
}

// A program at the budget has a certificate, one past it has none.
func TestCertsAtTheBudget(t *testing.T) {
	const decl, once = "var i; var j; var k; ", "while 0 > 1 {} "
	left := impl.MaxVisits - impl.Solve(tree(t, decl+nestOf(3)+nestOf(3)+once)).Visits
	full, spent := spentOf(t, decl, nestOf(3)+nestOf(3), once, left), spentOf(t, decl, nestOf(3)+nestOf(3), once, left+1)
	got := impl.Solve(full)
	text := impl.CertOf(full)
	if got.Visits != impl.MaxVisits || text != linesOf(got.Wide) || impl.CertCheck(full, text) != impl.OK {
		t.Fatalf("%d visits: %.200q", got.Visits, text)
	}
	if text := impl.CertOf(spent); text != "" || impl.Solve(spent).Code != impl.ErrBudget {
		t.Fatalf("%.200q", text)
	}
	// Others may certify it all the same.
	if code := impl.CertCheck(spent, linesOf(tops(spent))); code != impl.OK {
		t.Fatal(code)
	}
}

// statesAlong: the states of some runs, each with its point.
func statesAlong(n impl.Node, next func(int) int) []impl.Conf {
	var list []impl.Conf
	for _, most := range []int{0, 2, 5} {
		var inputs []int
		for range next(6) {
			inputs = append(inputs, []int{next(5), next(5) - 2, next(70), bound - next(2), -bound}[min(next(5), next(5))])
		}
		c, _ := impl.Begin(n, lensFor(n, func(int) int { return min(next(most+1)+next(2), 5) }))
		for range 40 {
			list = append(list, c)
			after := impl.Step(n, c, inputs)
			if after.Trap != 0 || after.Steps == c.Steps {
				break
			}
			c = after
		}
	}
	return list
}

// hasStates: whether what is told for the points has all states; some of them are
// asked of AbsHas as well.
func hasStates(t *testing.T, n impl.Node, list []impl.Abs, states []impl.Conf) bool {
	t.Helper()
	hasAll := true
	for at, c := range states {
		has := hasByParts(list[c.Point], c)
		if at%20 == 0 && impl.AbsHas(n, list[c.Point], c) != has {
			t.Fatalf("%s: %v has %v: %v", shown(n), list[c.Point], c, !has)
		}
		hasAll = hasAll && has
	}
	return hasAll
}

// drawnProgram: a right program of one of many kinds, and what is found of it.
func drawnProgram(t *testing.T, next func(int) int) (impl.Node, []impl.Abs) {
	t.Helper()
	for {
		var n impl.Node
		switch next(4) {
		case 0:
			n = rightProgram(next)
		case 1:
			n = guardedProgram(t, next)
		default:
			n = runProgram(t, next)
		}
		if impl.Check(n).Code != impl.OK {
			continue
		}
		if got := impl.Solve(n); got.Code == impl.OK {
			return n, got.Wide
		}
	}
}

// Promise 20, of what is found: it is read back as it is, and is good.
func TestCertsOfSolvedPrograms(t *testing.T) {
	next := draws(1801)
	states, points := 0, 0
	for round := range 150 {
		n, wide := drawnProgram(t, next)
		text := impl.CertOf(n)
		if text != certByParts(n, wide) || text == "" {
			t.Fatalf("%s: %q, want %v", shown(n), text, wide)
		}
		read, isRead := impl.CertRead(n, text)
		if !isRead || !sameList(read, wide) || impl.CertText(n, read) != text || impl.CertCheck(n, text) != impl.OK {
			t.Fatalf("%s: %q: %v", shown(n), text, read)
		}
		if round%8 == 0 {
			wantCheck(t, n, text, 0)
		}
		along := statesAlong(n, next)
		if !hasStates(t, n, read, along) {
			t.Fatalf("%s: %q has not %v", shown(n), text, along)
		}
		states, points = states+len(along), points+len(read)
	}
	if states < 3500 || points < 2000 {
		t.Fatal(states, points)
	}
}

// turnedLines: the lines of a certificate turned here and there, with those of
// another one at hand.
func turnedLines(next func(int) int, lines, other []string) []string {
	lines = slices.Clone(lines)
	for range 1 + next(2) {
		at := next(len(lines))
		switch next(6) {
		case 0, 1, 2:
			words := strings.Split(lines[at], " ")
			// Oftener one of the facts than one behind them.
			one := min(next(len(words)), next(len(words)))
			num, _ := strconv.Atoi(words[one])
			words[one] = strconv.Itoa(num + []int{1, -1, 2, -2, 60}[min(next(5), next(5))])
			lines[at] = strings.Join(words, " ")
		case 3:
			lines[at] = lines[next(len(lines))]
		case 4:
			lines[at] = other[next(len(other))]
		case 5:
			to := next(len(lines))
			lines[at], lines[to] = lines[to], lines[at]
		}
	}
	return lines
}

// turns counts what promise 20 was asked of.
type turns struct{ programs, asked, good, others, start, step, form, lost int }

func (k *turns) ask(t *testing.T, n impl.Node, text, first string, along []impl.Conf, isModelled bool) {
	t.Helper()
	code := impl.CertCheck(n, text)
	if isModelled {
		wantCheck(t, n, text, code)
	}
	list, isRead := impl.CertRead(n, text)
	if isRead == (code == impl.ErrForm) {
		t.Fatalf("%s: %q: code %d", shown(n), text, code)
	}
	k.asked++
	switch code {
	case impl.ErrForm:
		k.form++
		return
	case impl.ErrStart:
		k.start++
	case impl.ErrStep:
		k.step++
	case impl.OK:
		if k.good++; text != first {
			k.others++
		}
	default:
		t.Fatalf("%s: %q: code %d", shown(n), text, code)
	}
	if hasStates(t, n, list, along) {
		return
	}
	if k.lost++; code == impl.OK {
		t.Fatalf("%s: %q has not all of %v", shown(n), text, along)
	}
}

// spread: what comes of some states by going over all edges until nothing new
// comes: a certificate made otherwise.
func spreadOver(n impl.Node, list []impl.Abs) []impl.Abs {
	edges := impl.GraphOf(n).Edges
	for isNew := true; isNew; {
		isNew = false
		for at, e := range edges {
			if a := impl.AbsEdge(n, list[e.From], at); !impl.AbsLeq(n, a, list[e.To]) {
				list[e.To] = impl.AbsWiden(n, list[e.To], a, nil)
				isNew = true
			}
		}
	}
	return list
}

// Promise 20, of certificates that are turned here and there, and of such as were
// made otherwise: whatever is good has each state of each run at its point.
func TestTurnedCerts(t *testing.T) {
	next := draws(1802)
	var k turns
	other := strings.Split(impl.CertOf(guardedProgram(t, next)), "\n")
	for round := range 90 {
		n, wide := drawnProgram(t, next)
		along := statesAlong(n, next)
		text := linesOf(wide)
		lines := strings.Split(strings.TrimSuffix(text, "\n"), "\n")
		k.programs++
		for at := range 25 {
			turned := strings.Join(turnedLines(next, lines, other), "\n") + "\n"
			k.ask(t, n, turned, text, along, at == 0 && round%4 == 0)
		}
		other = lines
		// Looser ones, and closer ones that need not be good.
		loose := copyList(wide)
		for point := range loose {
			if next(4) == 0 {
				loose[point] = looserAbs(next, normByParts(loose[point]))
			}
		}
		k.ask(t, n, linesOf(loose), text, along, round%10 == 0)
		k.ask(t, n, linesOf(impl.Solve(n).Points), text, along, false)
		k.ask(t, n, linesOf(tops(n)), text, along, false)
		if round%4 == 0 {
			start := put(make([]impl.Abs, len(wide)), 0, impl.AbsStart(n))
			k.ask(t, n, linesOf(spreadOver(n, start)), text, along, false)
			k.ask(t, n, linesOf(spreadOver(n, loose)), text, along, false)
		}
	}
	if k.good < 450 || k.others < 300 || k.start < 80 || k.step < 600 || k.form < 500 || k.lost < 400 {
		t.Fatalf("%+v", k)
	}
}

// Every answer is new memory, no two lists of one share any, nothing is written
// into an argument nor behind it, and what is behind it is not read.
func TestArgumentsOfCertsAreKept(t *testing.T) {
	for _, plain := range append(solvedPrograms(t), twoArrays(t)) {
		n := roomyTree(plain)
		want := impl.Solve(plain).Wide
		text := linesOf(want)
		for range 2 {
			list := roomyList(want)
			if got := impl.CertText(n, list); got != text {
				t.Fatalf("%s: %q, want %q", shown(plain), got, text)
			}
			wantRoomyList(t, list, want)
			if impl.CertOf(n) != text || impl.CertCheck(n, text) != impl.OK {
				t.Fatalf("%s: %q", shown(plain), text)
			}
			got, isRead := impl.CertRead(n, text)
			if !isRead || !sameList(got, want) {
				t.Fatalf("%s: %v", shown(plain), got)
			}
			wipeTable(t, impl.Table{Wide: got})
			if !sameTree(n, plain) || !hasRoom(n) {
				t.Fatal(n)
			}
		}
	}
	// All that can be told, and a list in which each Abs is one and the same.
	n := twoArrays(t)
	for _, a := range manyTold(t) {
		same := slices.Repeat([]impl.Abs{a}, 7)
		text := impl.CertText(n, same)
		for range 2 {
			got, isRead := impl.CertRead(n, text)
			if !isRead || !sameList(got, same) || text != linesOf(same) {
				t.Fatal(got)
			}
			wipeTable(t, impl.Table{Wide: got})
		}
	}
}

// Calls at the same time give the same, with the same arguments.
func TestCertsAtTheSameTime(t *testing.T) {
	spent := tree(t, "var i; var j; var k; var l; "+nestOf(4))
	var workers sync.WaitGroup
	for _, n := range solvedPrograms(t) {
		want := impl.Solve(n).Wide
		text := linesOf(want)
		less := linesOf(put(want, len(want)-1, nothing()))
		code := impl.CertCheck(n, less)
		for range 4 {
			workers.Add(1)
			go func() {
				defer workers.Done()
				if got, isRead := impl.CertRead(n, text); !isRead || !sameList(got, want) || impl.CertText(n, want) != text {
					t.Errorf("%s: %v, want %v", shown(n), got, want)
				}
				if impl.CertOf(n) != text || impl.CertCheck(n, text) != impl.OK || impl.CertCheck(n, less) != code || impl.CertCheck(n, text[1:]) != impl.ErrForm {
					t.Errorf("%s", shown(n))
				}
				if got := impl.CertOf(spent); got != "" {
					t.Errorf("%q", got)
				}
			}()
		}
	}
	workers.Wait()
}
