package tests

import (
	"fmt"
	"slices"
	"strconv"
	"strings"
	"testing"

	"loop.example/g00093/impl"
)

// A use is a name in the statements, and whether an array is meant.
type use struct {
	name  string
	array bool
}

// parted gives the words of the declarations and those of the statements.
func parted(n impl.Node) ([]impl.Word, []impl.Word) {
	list, _ := impl.Words(impl.Print(n))
	last := -1
	for i, w := range list {
		if w.Text == "var" || w.Text == "array" {
			last = i
		}
	}
	if last < 0 {
		return nil, list
	}
	for list[last].Text != ";" {
		last++
	}
	return list[:last+1], list[last+1:]
}

// usesOf gives the names in the statements, as the words around them say: text
// and tree have them in one order.
func usesOf(n impl.Node) []use {
	_, words := parted(n)
	var list []use
	for i, w := range words {
		if w.Kind == impl.WdName {
			array := words[i+1].Text == "[" || i > 1 && words[i-2].Text == "len"
			list = append(list, use{w.Text, array})
		}
	}
	return list
}

// declsOf gives the declared names with their sizes, -2 for variables.
func declsOf(n impl.Node) ([]string, []int) {
	words, _ := parted(n)
	var names []string
	var sizes []int
	for i, w := range words {
		switch w.Text {
		case "var":
			names, sizes = append(names, words[i+1].Text), append(sizes, -2)
		case "array":
			size, err := strconv.Atoi(words[i+3].Text)
			if err != nil {
				size = -1
			}
			names, sizes = append(names, words[i+1].Text), append(sizes, size)
		}
	}
	return names, sizes
}

// joined writes words with no more blanks than there have to be.
func joined(words []string) string {
	letter := func(b byte) bool { return b >= 'a' && b <= 'z' || b >= '0' && b <= '9' }
	text := ""
	for _, one := range words {
		if text != "" && letter(text[len(text)-1]) && letter(one[0]) {
			text += " "
		}
		text += one
	}
	return text
}

// plainByWords rewrites each for in the text of a program, word by word.
func plainByWords(n impl.Node) (impl.Node, bool) {
	list, _ := impl.Words(impl.Print(n))
	var out, open []string // open has the loop's name for each block, or none
	name := ""
	for i, w := range list {
		switch w.Text {
		case "for":
			name = list[i+1].Text
		case "from":
			out = append(out, "=")
		case "to":
			out = append(out, ";", "while", name, "<")
		case "{":
			out, open, name = append(out, "{"), append(open, name), ""
		case "}":
			last := open[len(open)-1]
			open = open[:len(open)-1]
			if last != "" {
				out = append(out, last, "=", last, "+", "1", ";")
			}
			out = append(out, "}")
		default:
			out = append(out, w.Text)
		}
	}
	tree, fault := impl.Parse(joined(out))
	return tree, fault.Code == impl.OK && impl.ProgOk(tree)
}

// troubleByWords is Check once more, of the text of a program.
func troubleByWords(n impl.Node) impl.Trouble {
	if impl.Print(n) == "" {
		return impl.Trouble{Code: 4}
	}
	names, sizes := declsOf(n)
	vars := 0
	for _, size := range sizes {
		if size == -2 {
			vars++
		}
	}
	if vars > 8 || len(sizes)-vars > 4 || slices.ContainsFunc(sizes, func(size int) bool { return size > 60 }) {
		return impl.Trouble{Code: 3}
	}
	for i, name := range names {
		if slices.Contains(names[:i], name) {
			return impl.Trouble{Code: 6, Name: name}
		}
	}
	for _, one := range usesOf(n) {
		if !slices.Contains(names, one.name) {
			return impl.Trouble{Code: 7, Name: one.name}
		}
	}
	for _, one := range usesOf(n) {
		if (sizes[slices.Index(names, one.name)] != -2) != one.array {
			return impl.Trouble{Code: 8, Name: one.name}
		}
	}
	if _, ok := plainByWords(n); !ok {
		return impl.Trouble{Code: 5}
	}
	return impl.Trouble{}
}

func tree(t *testing.T, text string) impl.Node {
	t.Helper()
	n, fault := impl.Parse(text)
	if fault.Code != impl.OK {
		t.Fatalf("%.200q: %v", text, fault)
	}
	return n
}

// shown gives a tree's text, or the beginning of the tree where it has none.
func shown(n impl.Node) string {
	if text := impl.Print(n); text != "" {
		return strconv.Quote(text)
	}
	if impl.DepthOf(n) > 100 {
		return "a deep tree"
	}
	text := fmt.Sprint(n)
	return text[:min(len(text), 300)]
}

// wantTrouble: Check says this, and a program that is not right has nothing.
func wantTrouble(t *testing.T, n impl.Node, code int, name string) {
	t.Helper()
	if got := impl.Check(n); got != (impl.Trouble{Code: code, Name: name}) {
		t.Fatalf("Check of %s = %v, want %d %q", shown(n), got, code, name)
	}
	if code == impl.OK {
		return
	}
	if plain := impl.Plain(n); !sameTree(plain, impl.Node{}) {
		t.Fatalf("Plain of %s is %s", shown(n), shown(plain))
	}
	if len(impl.VarsOf(n))+len(impl.ArraysOf(n))+len(impl.SizesOf(n)) > 0 {
		t.Fatalf("%s has %v %v %v", shown(n), impl.VarsOf(n), impl.ArraysOf(n), impl.SizesOf(n))
	}
}

// wantRight: a program that is right keeps promise 28, and its Plain, its names
// and its sizes are as its words say.
func wantRight(t *testing.T, n impl.Node) {
	t.Helper()
	before := copyTree(n)
	wantTrouble(t, n, impl.OK, "")
	var vars, arrays []string
	var cells []int
	names, sizes := declsOf(n)
	for i, name := range names {
		if slices.Contains(names[:i], name) {
			t.Fatalf("%q is declared twice in %q", name, impl.Print(n))
		}
		if sizes[i] == -2 {
			vars = append(vars, name)
			continue
		}
		arrays, cells = append(arrays, name), append(cells, sizes[i])
		if sizes[i] > 60 {
			t.Fatalf("%q has %d cells", name, sizes[i])
		}
	}
	if len(vars) > 8 || len(arrays) > 4 {
		t.Fatalf("%v and %v", vars, arrays)
	}
	for _, one := range usesOf(n) {
		if one.array != slices.Contains(arrays, one.name) || one.array == slices.Contains(vars, one.name) {
			t.Fatalf("%v in %q", one, impl.Print(n))
		}
	}
	if !slices.Equal(impl.VarsOf(n), vars) || !slices.Equal(impl.ArraysOf(n), arrays) || !slices.Equal(impl.SizesOf(n), cells) {
		t.Fatalf("%q has %v %v %v", impl.Print(n), impl.VarsOf(n), impl.ArraysOf(n), impl.SizesOf(n))
	}
	wantPlain(t, n)
	if !sameTree(n, before) {
		t.Fatalf("%v has become %v", before, n)
	}
}

func wantPlain(t *testing.T, n impl.Node) {
	t.Helper()
	plain := impl.Plain(n)
	if want, ok := plainByWords(n); !ok || !sameTree(plain, want) {
		t.Fatalf("Plain of %q is %q", impl.Print(n), impl.Print(plain))
	}
	words, _ := impl.Words(impl.Print(plain))
	if slices.ContainsFunc(words, func(w impl.Word) bool { return w.Text == "for" }) {
		t.Fatalf("%q has a for", impl.Print(plain))
	}
	if impl.Check(plain) != (impl.Trouble{}) || !sameTree(impl.Plain(plain), plain) {
		t.Fatalf("Plain of %q is %q", impl.Print(plain), impl.Print(impl.Plain(plain)))
	}
}

// renamed gives the names of statements anew, by whether an array is wanted.
func renamed(n impl.Node, name func(array bool) string) impl.Node {
	switch n.Kind {
	case impl.ExVar, impl.StSet, impl.StRead, impl.StFor:
		n.Name = name(false)
	case impl.ExCell, impl.ExLen, impl.StPut:
		n.Name = name(true)
	}
	for i := range n.Kids {
		n.Kids[i] = renamed(n.Kids[i], name)
	}
	return n
}

// rightProgram gives a program that is right, if its Plain is not too large.
func rightProgram(next func(int) int) impl.Node {
	names := slices.Clone(nameTexts)
	for i := range names {
		j := i + next(len(names)-i)
		names[i], names[j] = names[j], names[i]
	}
	vars, arrays := names[:1+next(8)], names[8:9+next(4)]
	n := node(impl.NdProg)
	for _, name := range vars {
		n.Kids = append(n.Kids, named(impl.DcVar, name))
	}
	for _, name := range arrays {
		n.Kids = slices.Insert(n.Kids, next(len(n.Kids)+1), array(name, []int{-1, 0, 1, 5, 60}[next(5)]))
	}
	stmts := block(someStmt(next, 2), someStmt(next, 3))
	stmts.Kids = append(stmts.Kids, someBlock(next, 2).Kids...)
	n.Kids = append(n.Kids, renamed(stmts, func(array bool) string {
		if array {
			return arrays[next(len(arrays))]
		}
		return vars[next(len(vars))]
	}))
	return n
}

func TestNameConstants(t *testing.T) {
	got := []int{impl.MaxVars, impl.MaxArrays, impl.MaxLen, impl.ErrTwice, impl.ErrNone, impl.ErrKind}
	if want := []int{8, 4, 60, 6, 7, 8}; !slices.Equal(got, want) {
		t.Fatalf("%v, want %v", got, want)
	}
}

// Promise 28, of programs that were made right, and promise 3 of their Plain.
func TestRightPrograms(t *testing.T) {
	next := draws(28)
	right := 0
	for range 1500 {
		n := rightProgram(next)
		trouble := troubleByWords(n)
		if trouble.Code != impl.OK {
			if trouble.Code != impl.ErrLarge && trouble.Code != impl.ErrForm {
				t.Fatalf("%q: %v", impl.Print(n), trouble)
			}
			wantTrouble(t, n, trouble.Code, "")
			continue
		}
		right++
		wantRight(t, n)
	}
	if right < 1000 {
		t.Fatalf("%d right programs", right)
	}
}

// turnName gives a program the number-th name of whose statements is another.
func turnName(n impl.Node, number int, name string) impl.Node {
	n = copyTree(n)
	last := len(n.Kids) - 1
	uses := usesOf(n)
	uses[number].name = name
	at := 0
	n.Kids[last] = renamed(n.Kids[last], func(bool) string {
		at++
		return uses[at-1].name
	})
	return n
}

// Promise 28: a right program with one thing turned is not right any more.
func TestTurnedPrograms(t *testing.T) {
	next := draws(29)
	turned := 0
	for range 500 {
		n := rightProgram(next)
		uses := usesOf(n)
		if impl.Check(n).Code != impl.OK || len(uses) == 0 || len(impl.Print(n)) > 3000 {
			continue
		}
		turned++
		last := len(n.Kids) - 1
		at := next(len(uses))
		wantTrouble(t, turnName(n, at, "none"), impl.ErrNone, "none")
		other := impl.ArraysOf(n)[0]
		if uses[at].array {
			other = impl.VarsOf(n)[0]
		}
		wantTrouble(t, turnName(n, at, other), impl.ErrKind, other)
		with := func(list ...impl.Node) impl.Node {
			one := copyTree(n)
			one.Kids = slices.Insert(one.Kids, next(last+1), list...)
			return one
		}
		twice := n.Kids[next(last)]
		if twice.Kind == impl.DcVar && len(impl.VarsOf(n)) < 8 || twice.Kind == impl.DcArray && len(impl.ArraysOf(n)) < 4 {
			wantTrouble(t, with(twice), impl.ErrTwice, twice.Name)
		}
		if len(impl.ArraysOf(n)) < 4 {
			wantTrouble(t, with(array(impl.VarsOf(n)[0], 3)), impl.ErrTwice, impl.VarsOf(n)[0])
			wantTrouble(t, with(array("long", 61)), impl.ErrMany, "")
		}
		if len(impl.VarsOf(n)) < 8 {
			wantTrouble(t, with(named(impl.DcVar, other)), impl.ErrTwice, other)
		}
		var more []impl.Node
		for i := len(impl.VarsOf(n)); i < 9; i++ {
			more = append(more, named(impl.DcVar, "more"+strconv.Itoa(i)))
		}
		wantTrouble(t, with(more...), impl.ErrMany, "")
		more = nil
		for i := len(impl.ArraysOf(n)); i < 5; i++ {
			more = append(more, array("more"+strconv.Itoa(i), -1))
		}
		wantTrouble(t, with(more...), impl.ErrMany, "")
	}
	if turned < 300 {
		t.Fatalf("%d programs", turned)
	}
}

// Programs with any names: Check says what their words say.
func TestTroubleByWords(t *testing.T) {
	next := draws(30)
	seen := map[int]int{}
	for range 4000 {
		n := rightProgram(next)
		last := len(n.Kids) - 1
		names, _ := declsOf(n)
		rarely := 10*next(8) + 1
		n.Kids[last] = renamed(n.Kids[last], func(array bool) string {
			if next(rarely) > 0 {
				kind := map[bool]int{false: impl.DcVar, true: impl.DcArray}[array]
				return n.Kids[slices.IndexFunc(n.Kids, func(decl impl.Node) bool { return decl.Kind == kind })].Name
			}
			return append(names, nameTexts...)[next(len(names)+5)]
		})
		for range next(3) {
			n.Kids = slices.Insert(n.Kids, 0, []impl.Node{n.Kids[next(last)], named(impl.DcVar, "free"), array("room", next(64)-1)}[next(3)])
		}
		want := troubleByWords(n)
		seen[want.Code]++
		if want.Code == impl.OK {
			wantRight(t, n)
			continue
		}
		wantTrouble(t, n, want.Code, want.Name)
	}
	for _, code := range []int{impl.OK, impl.ErrMany, impl.ErrTwice, impl.ErrNone, impl.ErrKind} {
		if seen[code] < 100 {
			t.Fatalf("%v", seen)
		}
	}
}

// Each code, and each ahead of those behind it.
func TestCodesInOrder(t *testing.T) {
	const nine = "var a; var b; var c; var d; var e; var f; var g; var h; var i; "
	const five = "array a[1]; array b[1]; array c[1]; array d[1]; array e[1]; "
	// With so many declarations it has MaxNodes nodes, and its Plain more.
	large := func(decls int) string {
		return strings.Repeat("skip;", 494-decls) + "for i from 0 to 1 { }"
	}
	for _, one := range []struct {
		text string
		code int
		name string
	}{
		{"", 4, ""},
		{"# nothing", 4, ""},
		{nine + "skip;", 3, ""},
		{five + "skip;", 3, ""},
		{"array a[61]; skip;", 3, ""},
		{"array a[60]; array b[1000000]; skip;", 3, ""},
		{"array a[61]; array a[1]; skip;", 3, ""},
		{"array a[1]; array a[61]; skip;", 3, ""},
		{strings.Repeat("var a; ", 9) + "skip;", 3, ""},
		{strings.Repeat("array a[1]; ", 5) + "skip;", 3, ""},
		{"var a; var a; " + five + "skip;", 3, ""},
		{nine + "x = 1;", 3, ""},
		{five + "a = 1;", 3, ""},
		{nine + large(9), 3, ""},
		{"var i; var i; skip;", 6, "i"},
		{"array a[1]; array a[1]; skip;", 6, "a"},
		{"array a[1]; array a[?]; skip;", 6, "a"},
		{"var i; array i[2];", 6, "i"},
		{"array i[2]; var i;", 6, "i"},
		{"var a; var b; var b; var a; skip;", 6, "b"},
		{"var a; var b; var a; var b; skip;", 6, "a"},
		{"var a; var a; array b[1]; array b[1]; skip;", 6, "a"},
		{"var b; array a[1]; array b[1]; var a; skip;", 6, "b"},
		{"var a; var a; var a; skip;", 6, "a"},
		{"var z; var z; x = 1;", 6, "z"},
		{"x = 1; ", 7, "x"},
		{"var z; var z; z[0] = 1;", 6, "z"},
		{"var z; array z[1]; z = 1;", 6, "z"},
		{"var i; var i; " + large(2), 6, "i"},
		{"var i; i[0] = q;", 7, "q"},
		{"var i; array a[1]; a = i[a]; i = len(i) + no;", 7, "no"},
		{large(0), 7, "i"},
		{"array i[3]; " + large(1), 8, "i"},
		{"var i; i = j + k;", 7, "j"},
		{"var i; var j; " + large(2), 5, ""},
		{"var i;" + large(1), 5, ""},
		{"var i;" + large(7), 5, ""},
		{"var i;" + large(8), 0, ""},
		{"var i;", 0, ""},
		{"array a[?];", 0, ""},
		{"skip;", 0, ""},
	} {
		wantTrouble(t, tree(t, one.text), one.code, one.name)
	}
	// A tree that is none has nothing else.
	bad := named(impl.StSet, "x", impl.Node{})
	wantTrouble(t, node(impl.NdProg, append(tree(t, nine+"x = y;").Kids[:9:9], block(bad))...), impl.ErrForm, "")
	wantTrouble(t, node(impl.NdProg, named(impl.DcVar, "i"), named(impl.DcVar, "i"), block(bad)), impl.ErrForm, "")
	wantTrouble(t, program(named(impl.StRead, "y"), bad), impl.ErrForm, "")
}

// The first name of a code, each node ahead of its Kids, these in order.
func TestFirstName(t *testing.T) {
	for text, name := range map[string]string{
		"p = q;": "p", "i = p;": "p", "p[q] = r;": "p", "a[p] = q;": "p", "a[i] = p;": "p", "read p; read q;": "p",
		"i = a[p] + q;": "p", "i = p[q];": "p", "i = p[a];": "p", "i = (i + p) * q;": "p", "i = i - -p - q;": "p", "i = len(p) + q;": "p",
		"for p from q to r { read q; }": "p", "for i from p to q { read r; }": "p", "for i from 0 to p { read q; }": "p",
		"for i from 0 to 1 { read p; } read q;": "p", "while p < q { read r; }": "p", "while i < p { read r; }": "p", "while i < 1 { read p; } read q;": "p",
		"if p < q { read r; } else { read q; }": "p", "if 1 < 2 { read p; } else { read q; }": "p", "if 1 < 2 { } else { read p; } read q;": "p",
		"check i == p; check q == r;": "p", "skip; stop; i = p; i = q;": "p",
	} {
		wantTrouble(t, tree(t, "var i; array a[3]; "+text), impl.ErrNone, name)
		// The same names, each declared as the other thing.
		uses := usesOf(tree(t, text))
		var kids []impl.Node
		for _, one := range []string{"p", "q", "r"} {
			decl := named(impl.DcVar, one)
			if at := slices.IndexFunc(uses, func(u use) bool { return u.name == one }); at < 0 {
				continue
			} else if !uses[at].array {
				decl = array(one, 3)
			}
			kids = append(kids, decl)
		}
		n := tree(t, "var i; array a[3]; "+text)
		n.Kids = append(kids, n.Kids...)
		wantTrouble(t, n, impl.ErrKind, name)
	}
}

// What wants a variable, what wants an array; and what is no name at all.
func TestKindsOfNames(t *testing.T) {
	i, a := variable("i"), variable("a")
	one, skip := number(1), block(node(impl.StSkip))
	set := func(n impl.Node) impl.Node { return named(impl.StSet, "i", n) }
	for _, both := range [][2]impl.Node{
		{set(i), set(a)},
		{named(impl.StSet, "i", one), named(impl.StSet, "a", one)},
		{named(impl.StRead, "i"), named(impl.StRead, "a")},
		{named(impl.StFor, "i", one, one, skip), named(impl.StFor, "a", one, one, skip)},
	} {
		wantRight(t, declaring(both[0]))
		wantTrouble(t, declaring(both[1]), impl.ErrKind, "a")
		wantTrouble(t, program(both[0]), impl.ErrNone, "i")
	}
	for _, both := range [][2]impl.Node{
		{set(named(impl.ExCell, "a", i)), set(named(impl.ExCell, "i", i))},
		{set(named(impl.ExLen, "a")), set(named(impl.ExLen, "i"))},
		{named(impl.StPut, "a", one, one), named(impl.StPut, "i", one, one)},
	} {
		wantRight(t, declaring(both[0]))
		wantTrouble(t, declaring(both[1]), impl.ErrKind, "i")
	}
	wantTrouble(t, node(impl.NdProg, named(impl.DcVar, "i"), block(named(impl.StPut, "a", i, i))), impl.ErrNone, "a")
	wantTrouble(t, node(impl.NdProg, named(impl.DcVar, "i"), block(set(named(impl.ExLen, "a")))), impl.ErrNone, "a")
	wantTrouble(t, node(impl.NdProg, array("a", 1), block(named(impl.StPut, "a", i, i))), impl.ErrNone, "i")
	wantRight(t, node(impl.NdProg, block(node(impl.StWhile, node(impl.CdLess, one, one), block(node(impl.StStop))))))
}

// declaring: a program with the variable i and the array a.
func declaring(list ...impl.Node) impl.Node {
	return node(impl.NdProg, named(impl.DcVar, "i"), array("a", 3), block(list...))
}

func TestMostDeclarations(t *testing.T) {
	list := func(vars, arrays, size int) impl.Node {
		n := node(impl.NdProg, block())
		for i := range vars {
			n.Kids = slices.Insert(n.Kids, 0, named(impl.DcVar, "v"+strconv.Itoa(i)))
		}
		for i := range arrays {
			n.Kids = slices.Insert(n.Kids, 0, array("a"+strconv.Itoa(i), size))
		}
		return n
	}
	for _, one := range [][3]int{{8, 0, 0}, {0, 4, 60}, {8, 4, 60}, {8, 4, -1}, {8, 4, 0}, {1, 1, 59}, {0, 1, 1}} {
		wantRight(t, list(one[0], one[1], one[2]))
	}
	for _, one := range [][3]int{{9, 0, 0}, {0, 5, 1}, {9, 4, 60}, {8, 5, 60}, {8, 4, 61}, {0, 1, 61}, {0, 1, 1000000}, {9, 5, 61}, {40, 0, 0}, {0, 40, -1}} {
		wantTrouble(t, list(one[0], one[1], one[2]), impl.ErrMany, "")
	}
	for _, size := range []int{-2, 1000001, -1 << 63, 1<<63 - 1} {
		wantTrouble(t, list(0, 1, size), impl.ErrForm, "")
	}
	// The size that is too great stands ahead, between and behind.
	for i := range 3 {
		n := list(2, 3, 60)
		n.Kids[i].Num = 61
		wantTrouble(t, n, impl.ErrMany, "")
	}
}

// A for stands for seven nodes more than it has.
func TestMostNodesOfPlain(t *testing.T) {
	with := func(skips int, text string) impl.Node {
		return tree(t, "var i; "+text+strings.Repeat("skip;", skips))
	}
	const loop = "for i from 0 to 1 { }"
	most := with(486, loop)
	if impl.CountNodes(most) != 493 || impl.CountNodes(impl.Plain(most)) != 500 {
		t.Fatalf("%d nodes, %d", impl.CountNodes(most), impl.CountNodes(impl.Plain(most)))
	}
	wantRight(t, most)
	for _, skips := range []int{487, 488, 493} {
		n := with(skips, loop)
		if !impl.ProgOk(n) || impl.CountNodes(n) != 7+skips {
			t.Fatalf("%d nodes", impl.CountNodes(n))
		}
		wantTrouble(t, n, impl.ErrLarge, "")
	}
	wantRight(t, with(475, loop+loop))
	wantTrouble(t, with(476, loop+loop), impl.ErrLarge, "")
	wantRight(t, with(475, "for i from 0 to 1 { for i from 0 to 1 { } }"))
	wantTrouble(t, with(476, "for i from 0 to 1 { for i from 0 to 1 { } }"), impl.ErrLarge, "")
	wantRight(t, with(497, ""))
	if _, fault := impl.Parse("var i; " + strings.Repeat("skip;", 498)); fault.Code != impl.ErrLarge {
		t.Fatal(fault)
	}
}

func TestDeepestPlain(t *testing.T) {
	signs := func(count int) string { return strings.Repeat("-", count) + "1" }
	for text, deep := range map[string]int{
		"for i from 0 to " + signs(19) + " { }":        24,
		"for i from " + signs(20) + " to 1 { }":        24,
		"for i from 0 to 1 { i = " + signs(18) + "; }": 24,
		"i = " + signs(20) + ";":                       24,
		"for i from 0 to 1 { }":                        7,
		nestedFors(9):                                  23,
	} {
		n := tree(t, "var i; "+text)
		if got := impl.DepthOf(impl.Plain(n)); got != deep {
			t.Fatalf("%q: %d deep, want %d", text, got, deep)
		}
		wantRight(t, n)
	}
	for _, text := range []string{"for i from 0 to " + signs(20) + " { }", nestedFors(10), nestedFors(11),
		"while 1 < 2 { for i from 0 to " + signs(18) + " { } }", "if 1 < 2 { } else { for i from 0 to " + signs(18) + " { } }"} {
		n := tree(t, "var i; "+text)
		if !impl.ProgOk(n) {
			t.Fatalf("%q: %d deep", text, impl.DepthOf(n))
		}
		wantTrouble(t, n, impl.ErrLarge, "")
	}
}

// nestedFors: so many loops, each the block of the one around it.
func nestedFors(count int) string {
	return strings.Repeat("for i from 0 to 1 { ", count) + strings.Repeat("}", count)
}

// Plain is not ProgOk either where its text has too many bytes or words.
func TestLongestPlain(t *testing.T) {
	text := "var abcdefgh; for abcdefgh from 0 to 1 { }" + strings.Repeat("abcdefgh = abcdefgh;", 186)
	n := tree(t, text+"abcdefgh = 123;")
	if size := len(impl.Print(impl.Plain(n))); size != 4000 {
		t.Fatalf("%d bytes", size)
	}
	wantRight(t, n)
	n = tree(t, text+"abcdefgh = 1234;")
	if !impl.ProgOk(n) || impl.CountNodes(n) > 400 {
		t.Fatalf("%d nodes", impl.CountNodes(n))
	}
	wantTrouble(t, n, impl.ErrLarge, "")

	text = "var i; array a[?]; for i from 0 to 1 { }" + strings.Repeat("a[len(a)] = len(a);", 113)
	n = tree(t, text+"read i; read i;")
	if words, _ := impl.Words(impl.Print(impl.Plain(n))); len(words) != 1500 {
		t.Fatalf("%d words", len(words))
	}
	wantRight(t, n)
	n = tree(t, text+"i = len(a);")
	if !impl.ProgOk(n) {
		t.Fatal("too many words")
	}
	wantTrouble(t, n, impl.ErrLarge, "")
}

// What a for becomes, wherever it stands.
func TestPlainTexts(t *testing.T) {
	const head = "var i;\nvar j;\narray a[2];\narray b[?];\n"
	for text, want := range map[string]string{
		"for i from 0 to len(a) { a[i] = 1; }":                              "i = 0;\nwhile i < len(a) {\n  a[i] = 1;\n  i = i + 1;\n}\n",
		"for i from 0 to 1 { }":                                             "i = 0;\nwhile i < 1 {\n  i = i + 1;\n}\n",
		"for i from i + 1 to i * i - 2 { i = i; }":                          "i = i + 1;\nwhile i < i * i - 2 {\n  i = i;\n  i = i + 1;\n}\n",
		"for i from a[i] to b[a[i]] { stop; }":                              "i = a[i];\nwhile i < b[a[i]] {\n  stop;\n  i = i + 1;\n}\n",
		"for i from -1 to -j { skip; skip; }":                               "i = -1;\nwhile i < -j {\n  skip;\n  skip;\n  i = i + 1;\n}\n",
		"for i from 0 to 1 { } for j from 2 to 3 { }":                       "i = 0;\nwhile i < 1 {\n  i = i + 1;\n}\nj = 2;\nwhile j < 3 {\n  j = j + 1;\n}\n",
		"skip; for i from 0 to 1 { } skip;":                                 "skip;\ni = 0;\nwhile i < 1 {\n  i = i + 1;\n}\nskip;\n",
		"for i from 0 to 1 { for j from i to 2 { } }":                       "i = 0;\nwhile i < 1 {\n  j = i;\n  while j < 2 {\n    j = j + 1;\n  }\n  i = i + 1;\n}\n",
		"for i from 0 to 1 { for i from 0 to 2 { } }":                       "i = 0;\nwhile i < 1 {\n  i = 0;\n  while i < 2 {\n    i = i + 1;\n  }\n  i = i + 1;\n}\n",
		"while i < 1 { for j from 0 to 1 { } }":                             "while i < 1 {\n  j = 0;\n  while j < 1 {\n    j = j + 1;\n  }\n}\n",
		"if i < 1 { for j from 0 to 1 { } }":                                "if i < 1 {\n  j = 0;\n  while j < 1 {\n    j = j + 1;\n  }\n}\n",
		"if i < 1 { } else { skip; for j from 0 to 1 { } }":                 "if i < 1 {\n} else {\n  skip;\n  j = 0;\n  while j < 1 {\n    j = j + 1;\n  }\n}\n",
		"if i < 1 { for i from 0 to 1 { } } else { for j from 0 to 1 { } }": "if i < 1 {\n  i = 0;\n  while i < 1 {\n    i = i + 1;\n  }\n} else {\n  j = 0;\n  while j < 1 {\n    j = j + 1;\n  }\n}\n",
		"i = 0; while i < len(a) { a[i] = 1; i = i + 1; }":                  "i = 0;\nwhile i < len(a) {\n  a[i] = 1;\n  i = i + 1;\n}\n",
		"": "",
		"skip; stop; read i; check i < j; a[0] = -b[1];":      "skip;\nstop;\nread i;\ncheck i < j;\na[0] = -b[1];\n",
		"while i < 1 { if j < 1 { read j; } else { stop; } }": "while i < 1 {\n  if j < 1 {\n    read j;\n  } else {\n    stop;\n  }\n}\n",
	} {
		n := tree(t, head+text)
		wantRight(t, n)
		if got := impl.Print(impl.Plain(n)); got != head+want {
			t.Fatalf("Plain of %q is %q, want %q", text, got, want)
		}
		if !strings.Contains(text, "for") && !sameTree(impl.Plain(n), n) {
			t.Fatalf("Plain of %q is another: %q", text, impl.Print(impl.Plain(n)))
		}
	}
	x, one := variable("i"), number(1)
	got := impl.Plain(declaring(named(impl.StFor, "i", number(7), named(impl.ExLen, "a"), block(node(impl.StSkip)))))
	want := declaring(named(impl.StSet, "i", number(7)), node(impl.StWhile, node(impl.CdLess, x, named(impl.ExLen, "a")),
		block(node(impl.StSkip), named(impl.StSet, "i", node(impl.ExAdd, x, one)))))
	if !sameTree(got, want) {
		t.Fatalf("%v, want %v", got, want)
	}
}

func TestDeclaredInOrder(t *testing.T) {
	for _, one := range []struct {
		text         string
		vars, arrays []string
		sizes        []int
	}{
		{"skip;", nil, nil, nil},
		{"var i;", []string{"i"}, nil, nil},
		{"array a[0];", nil, []string{"a"}, []int{0}},
		{"array b[?]; var z; array a[60]; var y; var x; array c[0]; array d[?]; skip;", []string{"z", "y", "x"}, []string{"b", "a", "c", "d"}, []int{-1, 60, 0, -1}},
		{"var h; var g; var f; var e; var d; var c; var b; var a; array abcdefgh[1];", strings.Fields("h g f e d c b a"), []string{"abcdefgh"}, []int{1}},
		{"var i; for i from 0 to 1 { }", []string{"i"}, nil, nil},
	} {
		n := tree(t, one.text)
		if v, a, s := impl.VarsOf(n), impl.ArraysOf(n), impl.SizesOf(n); !slices.Equal(v, one.vars) || !slices.Equal(a, one.arrays) || !slices.Equal(s, one.sizes) {
			t.Fatalf("%q: %v %v %v", one.text, v, a, s)
		}
		wantRight(t, n)
	}
	for _, text := range []string{"", "var i; array a[1]; x = 1;", "var i; var i; array a[1];", "var i; array a[1]; a = i;", "var i; array a[61];",
		"var i; array a[1];" + nestedFors(10)} {
		n := tree(t, text)
		if v, a, s := impl.VarsOf(n), impl.ArraysOf(n), impl.SizesOf(n); len(v)+len(a)+len(s) > 0 {
			t.Fatalf("%q: %v %v %v", text, v, a, s)
		}
	}
}

// Trees that Parse gives for no text.
func TestNamesOfNoProgram(t *testing.T) {
	n := declaring(named(impl.StFor, "i", number(0), named(impl.ExLen, "a"), block(named(impl.StPut, "a", variable("i"), number(1)))))
	wantRight(t, n)
	wantTrouble(t, impl.Node{}, impl.ErrForm, "")
	for _, bad := range append(spoils(n), block(), number(1), named(impl.DcVar, "i"), n.Kids[2], n.Kids[2].Kids[0], program(), node(impl.NdProg)) {
		wantTrouble(t, bad, impl.ErrForm, "")
	}
	for at := range n.Kids {
		for _, bad := range spoils(n.Kids[at]) {
			one := copyTree(n)
			one.Kids[at] = bad
			wantTrouble(t, one, impl.ErrForm, "")
		}
	}
	for _, bad := range spoils(n.Kids[2].Kids[0]) {
		wantTrouble(t, declaring(bad), impl.ErrForm, "")
	}
	wantTrouble(t, declaring(named(impl.StSet, "i", nested(number(1), 1000000))), impl.ErrForm, "")
	ring := make([]impl.Node, 1)
	ring[0] = node(impl.StWhile, node(impl.CdLess, number(1), number(2)), impl.Node{Kind: impl.StBlock, Kids: ring})
	wantTrouble(t, declaring(ring...), impl.ErrForm, "")
	wantTrouble(t, declaring(slices.Repeat([]impl.Node{node(impl.StSkip)}, 497)...), impl.ErrForm, "")
	wantRight(t, declaring(slices.Repeat([]impl.Node{node(impl.StSkip)}, 496)...))
}

// Answers are new memory, and nothing is kept or written into an argument.
func TestNamesKeepNothing(t *testing.T) {
	const text = "var i; array a[3]; array b[?]; skip; for i from i + 1 to len(a) * 2 { for i from i to 9 { a[i] = b[i + 1]; } } if i < 1 { stop; } else { for i from 1 to 2 { } }"
	n := tree(t, text)
	before := copyTree(n)
	plain := impl.Plain(n)
	want := copyTree(plain)
	seen := map[*impl.Node]int{}
	wipe(t, seen, &plain)
	again := impl.Plain(n)
	if !sameTree(n, before) || !sameTree(again, want) {
		t.Fatalf("%v has become %v, its Plain %v", before, n, again)
	}
	vars, arrays, sizes := impl.VarsOf(n), impl.ArraysOf(n), impl.SizesOf(n)
	vars[0], arrays[0], arrays[1], sizes[0], sizes[1] = "x", "x", "x", 7, 7
	wantRight(t, n)
	wipe(t, seen, &n)
	if !sameTree(again, want) {
		t.Fatalf("Plain has become %v", again)
	}
	// A program without a for is copied, too.
	same := tree(t, "var i; while i < 1 { i = i + 1; }")
	before, plain = copyTree(same), impl.Plain(same)
	wipe(t, seen, &same)
	if !sameTree(plain, before) {
		t.Fatalf("Plain has become %v", plain)
	}
}

// What lies behind a list's length is neither read nor written.
func TestSpareRoomOfPrograms(t *testing.T) {
	stmts := []impl.Node{named(impl.StFor, "i", number(0), number(1), block()), {Kind: -1}, named(impl.StRead, "none"), {Kind: -1}}
	room := []impl.Node{node(impl.StSkip), {Kind: -1}}
	stmts[0].Kids[2].Kids = room[:1]
	decls := []impl.Node{named(impl.DcVar, "i"), block(stmts[:1]...), named(impl.DcVar, "i")}
	for range 2 {
		n := node(impl.NdProg, decls[:2]...)
		wantRight(t, n)
		if got := impl.Print(impl.Plain(n)); got != "var i;\ni = 0;\nwhile i < 1 {\n  skip;\n  i = i + 1;\n}\n" {
			t.Fatal(got)
		}
	}
	if stmts[1].Kind != -1 || stmts[2].Name != "none" || stmts[3].Kind != -1 || room[1].Kind != -1 || decls[2].Kind != impl.DcVar {
		t.Fatalf("%v %v %v", stmts, room, decls)
	}
}
