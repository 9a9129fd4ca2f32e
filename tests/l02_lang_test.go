package tests

import (
	"maps"
	"slices"
	"strconv"
	"strings"
	"testing"

	"loop.example/g00093/impl"
)

// node and named make trees: named ones have a name, numbers are asked for.
func node(kind int, kids ...impl.Node) impl.Node { return impl.Node{Kind: kind, Kids: kids} }

func named(kind int, name string, kids ...impl.Node) impl.Node {
	return impl.Node{Kind: kind, Name: name, Kids: kids}
}

func number(num int) impl.Node { return impl.Node{Kind: impl.ExNum, Num: num} }

func variable(name string) impl.Node { return named(impl.ExVar, name) }

func array(name string, size int) impl.Node {
	return impl.Node{Kind: impl.DcArray, Name: name, Num: size}
}

func block(list ...impl.Node) impl.Node { return node(impl.StBlock, list...) }

// program: the tree of these statements, with nothing declared.
func program(list ...impl.Node) impl.Node { return node(impl.NdProg, block(list...)) }

// nested: so many signs - around a tree.
func nested(n impl.Node, times int) impl.Node {
	for range times {
		n = node(impl.ExNeg, n)
	}
	return n
}

func sameTree(a, b impl.Node) bool {
	return a.Kind == b.Kind && a.Name == b.Name && a.Num == b.Num && slices.EqualFunc(a.Kids, b.Kids, sameTree)
}

func copyTree(n impl.Node) impl.Node {
	kids := n.Kids
	n.Kids = nil
	for _, kid := range kids {
		n.Kids = append(n.Kids, copyTree(kid))
	}
	return n
}

// wipe makes a tree zero, the spare room of its lists too, and tells where two
// lists, of this tree or of those that were seen ahead, share memory.
func wipe(t *testing.T, seen map[*impl.Node]int, n *impl.Node) {
	t.Helper()
	if seen[n]++; seen[n] > 1 {
		t.Fatal("two lists share memory")
	}
	kids := n.Kids[:cap(n.Kids)]
	for i := range kids {
		wipe(t, seen, &kids[i])
	}
	*n = impl.Node{}
}

func wantTree(t *testing.T, text string, want impl.Node) {
	t.Helper()
	got, fault := impl.Parse(text)
	if fault != (impl.Fault{}) || !sameTree(got, want) {
		t.Fatalf("Parse(%.200q) = %v %v, want %v", text, got, fault, want)
	}
}

func wantNoTree(t *testing.T, text string, code, at int) {
	t.Helper()
	got, fault := impl.Parse(text)
	if fault != (impl.Fault{Code: code, At: at}) || !sameTree(got, impl.Node{}) {
		t.Fatalf("Parse(%.200q) = %v %v, want fault %d at %d", text, got, fault, code, at)
	}
}

// wantPrinted: a tree is ok, printed as this text, and read back from it.
func wantPrinted(t *testing.T, n impl.Node, text string) {
	t.Helper()
	before := copyTree(n)
	if got := impl.Print(n); got != text || !impl.ProgOk(n) {
		t.Fatalf("%v is printed as %q, want %q", n, got, text)
	}
	wantTree(t, text, n)
	if !sameTree(n, before) {
		t.Fatalf("%v has become %v", before, n)
	}
}

func wantNoProg(t *testing.T, n impl.Node) {
	t.Helper()
	if impl.ProgOk(n) || impl.Print(n) != "" {
		t.Errorf("%.300v is no program, and is printed as %.100q", n, impl.Print(n))
	}
}

// wantExpr: an expression or a condition is ok as what it is, written as this
// text, and read back where it may stand.
func wantExpr(t *testing.T, n impl.Node, text string) {
	t.Helper()
	if got := impl.ExprText(n); got != text {
		t.Fatalf("%v is written as %q, want %q", n, got, text)
	}
	cond := n.Kind >= impl.CdLess && n.Kind <= impl.CdOther
	if impl.ExprOk(n) == cond || impl.CondOk(n) != cond {
		t.Fatalf("%v: ExprOk %v, CondOk %v", n, impl.ExprOk(n), impl.CondOk(n))
	}
	if cond {
		wantPrinted(t, program(node(impl.StCheck, n)), "check "+text+";\n")
		return
	}
	wantPrinted(t, program(named(impl.StSet, "x", n)), "x = "+text+";\n")
}

func wantNoExpr(t *testing.T, n impl.Node) {
	t.Helper()
	if impl.ExprOk(n) || impl.CondOk(n) || impl.ExprText(n) != "" {
		t.Errorf("%.300v is taken, and written as %.100q", n, impl.ExprText(n))
	}
}

// draws gives numbers below what it is asked for, the same in each run.
func draws(seed int) func(int) int {
	return func(n int) int {
		seed = (seed*1103515245 + 12345) % (1 << 31)
		return seed / 65536 % n
	}
}

func someExpr(next func(int) int, deep int) impl.Node {
	kind := next(8) + 1
	if deep <= 0 && kind > impl.ExVar {
		kind = next(2) + 1
	}
	switch kind {
	case impl.ExNum:
		return number([]int{0, 1, 7, 60, 999999, 1000000}[next(6)])
	case impl.ExVar, impl.ExLen:
		return named(kind, nameTexts[next(len(nameTexts))])
	case impl.ExCell:
		return named(kind, nameTexts[next(len(nameTexts))], someExpr(next, deep-1))
	case impl.ExNeg:
		return node(kind, someExpr(next, deep-1))
	}
	return node(kind, someExpr(next, deep-1), someExpr(next, deep-1))
}

func someCond(next func(int) int, deep int) impl.Node {
	return node(impl.CdLess+next(6), someExpr(next, deep), someExpr(next, deep))
}

func someBlock(next func(int) int, deep int) impl.Node {
	n := block()
	for range next(4) {
		n.Kids = append(n.Kids, someStmt(next, deep))
	}
	return n
}

func someStmt(next func(int) int, deep int) impl.Node {
	kind := impl.StSet + next(9)
	if deep <= 0 && kind >= impl.StIf && kind <= impl.StFor {
		kind = impl.StSkip
	}
	name := nameTexts[next(len(nameTexts))]
	switch kind {
	case impl.StSet:
		return named(kind, name, someExpr(next, 3))
	case impl.StPut:
		return named(kind, name, someExpr(next, 2), someExpr(next, 3))
	case impl.StRead:
		return named(kind, name)
	case impl.StIf:
		return node(kind, someCond(next, 2), someBlock(next, deep-1), someBlock(next, deep-1))
	case impl.StWhile:
		return node(kind, someCond(next, 2), someBlock(next, deep-1))
	case impl.StFor:
		return named(kind, name, someExpr(next, 2), someExpr(next, 2), someBlock(next, deep-1))
	case impl.StCheck:
		return node(kind, someCond(next, 3))
	}
	return node(kind)
}

func someProgram(next func(int) int) impl.Node {
	n := node(impl.NdProg)
	for range next(4) {
		name := nameTexts[next(len(nameTexts))]
		if next(2) == 0 {
			n.Kids = append(n.Kids, named(impl.DcVar, name))
		} else {
			n.Kids = append(n.Kids, array(name, []int{-1, 0, 5, 60, 1000000}[next(5)]))
		}
	}
	n.Kids = append(n.Kids, someBlock(next, 3))
	return n
}

func TestLangConstants(t *testing.T) {
	got := []int{impl.MaxDeep, impl.MaxNodes, impl.ErrForm, impl.ErrLarge,
		impl.ExNum, impl.ExVar, impl.ExCell, impl.ExLen, impl.ExNeg, impl.ExAdd, impl.ExSub, impl.ExMul,
		impl.CdLess, impl.CdMost, impl.CdMore, impl.CdLeast, impl.CdSame, impl.CdOther,
		impl.StSet, impl.StPut, impl.StRead, impl.StIf, impl.StWhile, impl.StFor, impl.StCheck, impl.StSkip,
		impl.StStop, impl.StBlock, impl.DcVar, impl.DcArray, impl.NdProg}
	want := []int{24, 500, 4, 5, 1, 2, 3, 4, 5, 6, 7, 8, 11, 12, 13, 14, 15, 16, 21, 22, 23, 24, 25, 26, 27, 28, 29, 30, 31, 32, 40}
	if !slices.Equal(got, want) {
		t.Fatalf("%v, want %v", got, want)
	}
}

// Promise 2: programs are read back from their Print.
func TestProgramsAreReadBack(t *testing.T) {
	next := draws(2)
	ok := 0
	for range 3000 {
		n := someProgram(next)
		text := impl.Print(n)
		if impl.ProgOk(n) != (text != "") {
			t.Fatalf("%v: ProgOk %v, printed as %q", n, impl.ProgOk(n), text)
		}
		if text == "" {
			// Only what has no line, or is past a limit, has no text.
			if impl.CountNodes(n) > 2 && impl.CountNodes(n) < 150 && impl.DepthOf(n) <= 24 {
				t.Fatalf("%v has no text", n)
			}
			continue
		}
		ok++
		wantPrinted(t, n, text)
	}
	if ok < 1500 {
		t.Fatalf("%d programs", ok)
	}
}

// Promise 2: what is read from a text in any layout is printed as a text that
// is printed as itself.
func TestPrintedTextIsPrintedAsItself(t *testing.T) {
	next := draws(3)
	for range 500 {
		n := someProgram(next)
		list, _ := impl.Words(impl.Print(n))
		var text strings.Builder
		for _, w := range list {
			text.WriteString(w.Text + []string{" ", "\n", "  ", "#x\n"}[next(4)])
		}
		got, fault := impl.Parse(text.String())
		if fault.Code == impl.ErrLong {
			continue
		}
		if fault.Code != impl.OK {
			t.Fatalf("%q: %v", text.String(), fault)
		}
		if len(list) > 0 {
			wantPrinted(t, got, impl.Print(n))
		}
	}
	for text, want := range map[string]string{
		"x=((1));":                          "x = 1;\n",
		"x=(a)+(b)-(c);":                    "x = a + b - c;\n",
		"x=((1+2))*(3);":                    "x = (1 + 2) * 3;\n",
		"x=(1*2)+(3*4);":                    "x = 1 * 2 + 3 * 4;\n",
		"x=1-(2*3);":                        "x = 1 - 2 * 3;\n",
		"x=(-1)*(-(2));":                    "x = -1 * -2;\n",
		"x=-(-(1));":                        "x = --1;\n",
		"a[(i)]=(a[(j+1)]);":                "a[i] = a[j + 1];\n",
		"check(1)<(2);":                     "check 1 < 2;\n",
		"if(i)<1{}else{}":                   "if i < 1 {\n}\n",
		"var i;array a[?];array b[0];skip;": "var i;\narray a[?];\narray b[0];\nskip;\n",
		"while 1<2{while 3<4{if 5<6{stop;}else{skip;}}}": "while 1 < 2 {\n  while 3 < 4 {\n    if 5 < 6 {\n      stop;\n    } else {\n      skip;\n    }\n  }\n}\n",
	} {
		n, fault := impl.Parse(text)
		if got := impl.Print(n); got != want || fault != (impl.Fault{}) {
			t.Fatalf("%q is printed as %q %v, want %q", text, got, fault, want)
		}
		wantPrinted(t, n, want)
	}
}

// Promise 2: all expressions of up to three signs, in all their shapes.
func TestExpressionsAreReadBack(t *testing.T) {
	shapes := [][]impl.Node{{number(1), variable("x"), named(impl.ExLen, "a")}}
	for size := 1; size <= 3; size++ {
		var list []impl.Node
		for _, kid := range shapes[size-1] {
			list = append(list, node(impl.ExNeg, kid), named(impl.ExCell, "a", kid))
		}
		for left := range size {
			for _, a := range shapes[left] {
				for _, b := range shapes[size-1-left] {
					list = append(list, node(impl.ExAdd, a, b), node(impl.ExSub, a, b), node(impl.ExMul, a, b))
				}
			}
		}
		shapes = append(shapes, list)
	}
	for _, list := range shapes {
		for i, n := range list {
			wantExpr(t, n, impl.ExprText(n))
			cond := node(impl.CdLess+i%6, n, list[(i*7+3)%len(list)])
			wantExpr(t, cond, impl.ExprText(cond))
		}
	}
	next := draws(4)
	for range 3000 {
		n := someExpr(next, 6)
		wantExpr(t, n, impl.ExprText(n))
		n = someCond(next, 5)
		wantExpr(t, n, impl.ExprText(n))
	}
}

// Where ( ) stand, and where they do not.
func TestParentheses(t *testing.T) {
	x, y, z := variable("x"), variable("y"), variable("z")
	two := func(kind int, a, b impl.Node) impl.Node { return node(kind, a, b) }
	neg := func(n impl.Node) impl.Node { return node(impl.ExNeg, n) }
	const add, sub, mul = impl.ExAdd, impl.ExSub, impl.ExMul
	for text, n := range map[string]impl.Node{
		"x + y + z":         two(add, two(add, x, y), z),
		"x - y - z":         two(sub, two(sub, x, y), z),
		"x - y + z":         two(add, two(sub, x, y), z),
		"x + (y + z)":       two(add, x, two(add, y, z)),
		"x + (y - z)":       two(add, x, two(sub, y, z)),
		"x - (y + z)":       two(sub, x, two(add, y, z)),
		"x - (y - z)":       two(sub, x, two(sub, y, z)),
		"x * y * z":         two(mul, two(mul, x, y), z),
		"x * (y * z)":       two(mul, x, two(mul, y, z)),
		"x * y + z":         two(add, two(mul, x, y), z),
		"x + y * z":         two(add, x, two(mul, y, z)),
		"x - y * z":         two(sub, x, two(mul, y, z)),
		"(x + y) * z":       two(mul, two(add, x, y), z),
		"(x - y) * z":       two(mul, two(sub, x, y), z),
		"x * (y + z)":       two(mul, x, two(add, y, z)),
		"x * (y - z)":       two(mul, x, two(sub, y, z)),
		"-x":                neg(x),
		"--x":               neg(neg(x)),
		"---x":              neg(neg(neg(x))),
		"-(x + y)":          neg(two(add, x, y)),
		"-(x - y)":          neg(two(sub, x, y)),
		"-(x * y)":          neg(two(mul, x, y)),
		"-x * y":            two(mul, neg(x), y),
		"x * -y":            two(mul, x, neg(y)),
		"-x + y":            two(add, neg(x), y),
		"x - -y":            two(sub, x, neg(y)),
		"x - --y":           two(sub, x, neg(neg(y))),
		"-a[x + y]":         neg(named(impl.ExCell, "a", two(add, x, y))),
		"a[-x]":             named(impl.ExCell, "a", neg(x)),
		"a[x * y] * 2":      two(mul, named(impl.ExCell, "a", two(mul, x, y)), number(2)),
		"-len(a)":           neg(named(impl.ExLen, "a")),
		"x - len(a)":        two(sub, x, named(impl.ExLen, "a")),
		"-1000000":          neg(number(1000000)),
		"x - (y - (z - 0))": two(sub, x, two(sub, y, two(sub, z, number(0)))),
		"x + y < y - z":     two(impl.CdLess, two(add, x, y), two(sub, y, z)),
		"x * y >= -z":       two(impl.CdLeast, two(mul, x, y), neg(z)),
		"-(x + y) != x":     two(impl.CdOther, neg(two(add, x, y)), x),
	} {
		wantExpr(t, n, text)
	}
}

// Every kind of node of the table, by its text and its fields.
func TestEveryKindOfNode(t *testing.T) {
	x, one := variable("x"), number(1)
	for kind, sign := range map[int]string{11: "<", 12: "<=", 13: ">", 14: ">=", 15: "==", 16: "!="} {
		cond := node(kind, x, one)
		wantExpr(t, cond, "x "+sign+" 1")
		wantPrinted(t, program(node(impl.StWhile, cond, block())), "while x "+sign+" 1 {\n}\n")
		wantPrinted(t, program(node(impl.StIf, cond, block(), block())), "if x "+sign+" 1 {\n}\n")
	}
	cond := node(impl.CdLess, x, one)
	stop, skip := node(impl.StStop), node(impl.StSkip)
	for text, n := range map[string]impl.Node{
		"x = 0;\n":                           named(impl.StSet, "x", number(0)),
		"a[x] = 1;\n":                        named(impl.StPut, "a", x, one),
		"read x;\n":                          named(impl.StRead, "x"),
		"check x < 1;\n":                     node(impl.StCheck, cond),
		"skip;\n":                            skip,
		"stop;\n":                            stop,
		"if x < 1 {\n  stop;\n}\n":           node(impl.StIf, cond, block(stop), block()),
		"if x < 1 {\n} else {\n  skip;\n}\n": node(impl.StIf, cond, block(), block(skip)),
		"if x < 1 {\n  stop;\n} else {\n  skip;\n  stop;\n}\n": node(impl.StIf, cond, block(stop), block(skip, stop)),
		"while x < 1 {\n  skip;\n}\n":                          node(impl.StWhile, cond, block(skip)),
		"for x from 1 to len(a) {\n  stop;\n}\n":               named(impl.StFor, "x", one, named(impl.ExLen, "a"), block(stop)),
		"for x from -1 to a[x] {\n}\n":                         named(impl.StFor, "x", node(impl.ExNeg, one), named(impl.ExCell, "a", x), block()),
		"for x from x + 1 to 1 {\n  for x from 1 to 1 {\n    while x < 1 {\n    }\n  }\n  skip;\n}\n": named(impl.StFor, "x",
			node(impl.ExAdd, x, one), one, block(named(impl.StFor, "x", one, one, block(node(impl.StWhile, cond, block()))), skip)),
	} {
		wantPrinted(t, program(n), text)
		wantPrinted(t, program(n, skip, n), text+"skip;\n"+text)
	}
	wantPrinted(t, node(impl.NdProg, named(impl.DcVar, "x"), array("a", -1), array("b", 0), array("c", 1000000), named(impl.DcVar, "a"), block()),
		"var x;\narray a[?];\narray b[0];\narray c[1000000];\nvar a;\n")
	wantTree(t, "if x < 1 { stop; } else { }", program(node(impl.StIf, cond, block(stop), block())))
	wantTree(t, "if x < 1 { stop; }", program(node(impl.StIf, cond, block(stop), block())))
}

func TestEmptyTexts(t *testing.T) {
	for _, text := range []string{"", " ", "\n", "# nothing", " #\n "} {
		wantTree(t, text, node(impl.NdProg, block()))
	}
	wantNoProg(t, node(impl.NdProg, block()))
	wantPrinted(t, node(impl.NdProg, named(impl.DcVar, "x"), block()), "var x;\n")
	wantPrinted(t, program(node(impl.StSkip)), "skip;\n")
}

func TestFaultsOfWordsComeFirst(t *testing.T) {
	wantNoTree(t, strings.Repeat(" ", 4001), impl.ErrLong, 0)
	wantNoTree(t, "= !", impl.ErrWord, 2)
	wantNoTree(t, "x = 1000001;", impl.ErrWord, 4)
	wantNoTree(t, "1a", impl.ErrWord, 0)
	wantNoTree(t, strings.Repeat(";", 1501), impl.ErrMany, 1500)
	wantNoTree(t, strings.Repeat("skip;", 750)+" stop", impl.ErrMany, 3751)
	wantNoTree(t, strings.Repeat("skip;", 750), impl.ErrLarge, 0)
}

func TestFirstWordThatCannotStand(t *testing.T) {
	for text, at := range map[string]int{
		"{ }": 0, ";": 0, "}": 0, "1;": 0, "else { }": 0, "len(a) = 1;": 0, "x": 1, "x ": 2, "x # y": 5,
		"x = 1": 5, "x = 1 \n ": 8, "x = ;": 4, "x = 1 2;": 6, "x == 1;": 2, "x[1] == 1;": 5, "x[] = 1;": 2, "x[1 = 1;": 4,
		"x(1) = 1;": 1, "var if;": 4, "var 1;": 4, "var x": 5, "var x var": 6, "array a;": 7, "array a[];": 8,
		"array a[x];": 8, "array a[-1];": 8, "array a[?;": 9, "array a[1 + 1];": 10, "array a[1]": 10, "array [1];": 6,
		"x = 1; var y;": 7, "var x; skip; array a[1];": 13, "if 1 < 2 { var x; }": 11,
		"check 1;": 7, "check 1 + 2;": 11, "check 1 < 2 < 3;": 12, "check 1 < 2 == 3;": 12, "check (1 < 2);": 9, "check 1 = 2;": 8,
		"check 1 <;": 9, "check < 1;": 6, "check -(1 < 2) < 3;": 10, "check;": 5, "if x { }": 5, "if 1 < 2 skip;": 9, "if 1 < 2 { } else skip;": 18,
		"if 1 < 2 { } else if 1 < 2 { }": 18, "if 1 < 2 { } else { } else { }": 22, "if 1 < 2 { } }": 13, "if 1 < 2 {": 10, "while { }": 6,
		"while 1 < 2": 11, "while 1 < 2;": 11, "x = 1 < 2;": 6, "x = (1 < 2);": 7, "x = a[1 < 2];": 8, "a[1 < 2] = 1;": 4, "x = len a;": 8,
		"x = len(1);": 8, "x = len(a + 1);": 10, "x = len(a[0]);": 9, "x = len();": 8, "x = (1;": 6, "x = 1);": 5, "x = ();": 5, "x = 1 + + 2;": 8,
		"x = 1 + * 2;": 8, "x = * 1;": 4, "x = 1 -;": 7, "x = 1 * ;": 8, "x = a[1;": 7, "x = a[];": 6, "x = a[1][2];": 8, "x = (a)[1];": 7,
		"x = 1[0];": 5, "x = if;": 4, "x = ?;": 4, "for x to 1 { }": 6, "for x from 1 { }": 13, "for x from 1 to 2;": 17, "for x from 1 < 2 to 3 { }": 13,
		"for a[0] from 1 to 2 { }": 5, "for 1 from 1 to 2 { }": 4, "for x from 1 to 1 < 2 { }": 18, "for x from to 2 { }": 11, "read 1;": 5,
		"read a[0];": 6, "read;": 4, "read x": 6, "skip": 4, "skip skip;": 5, "stop 1;": 5, "skip;;": 5, "read len;": 5, "skip; else": 6, "x = - - ;": 8,
	} {
		wantNoTree(t, text, impl.ErrForm, at)
	}
}

// rules is the grammar once more: a word in capitals is replaced by one of its
// lines, %name and %num stand for any such word.
func rules() map[string][]string {
	return map[string][]string{
		"PROG":  {"DECL PROG", "STMTS"},
		"DECL":  {"var %name ;", "array %name [ %num ] ;", "array %name [ ? ] ;"},
		"STMTS": {"", "STMT STMTS"},
		"STMT": {"%name = EXPR ;", "%name [ EXPR ] = EXPR ;", "read %name ;", "if COND BLOCK", "if COND BLOCK else BLOCK",
			"while COND BLOCK", "for %name from EXPR to EXPR BLOCK", "check COND ;", "skip ;", "stop ;"},
		"BLOCK": {"{ STMTS }"},
		"COND":  {"EXPR < EXPR", "EXPR <= EXPR", "EXPR > EXPR", "EXPR >= EXPR", "EXPR == EXPR", "EXPR != EXPR"},
		"EXPR":  {"TERM SUMS"},
		"SUMS":  {"", "+ TERM SUMS", "- TERM SUMS"},
		"TERM":  {"ONE MULS"},
		"MULS":  {"", "* ONE MULS"},
		"ONE":   {"- ONE", "%num", "%name", "%name [ EXPR ]", "len ( %name )", "( EXPR )"},
	}
}

// opened replaces words in capitals at the front until none stands there.
func opened(grammar map[string][]string, rests []string) []string {
	found := map[string]int{}
	for len(rests) > 0 {
		first, behind, _ := strings.Cut(rests[0], " ")
		lines := grammar[first]
		if lines == nil {
			found[rests[0]]++
		}
		rests = rests[1:]
		for _, line := range lines {
			rests = append(rests, strings.TrimSpace(line+" "+behind))
		}
	}
	return slices.Sorted(maps.Keys(found))
}

// goesOn gives what may stand behind a word, by what may stand at its place.
func goesOn(grammar map[string][]string, rests []string, w impl.Word) []string {
	want := map[int]string{impl.WdName: "%name", impl.WdNum: "%num", impl.WdSign: w.Text, impl.WdKey: w.Text}[w.Kind]
	var list []string
	for _, rest := range rests {
		if first, behind, _ := strings.Cut(rest, " "); first == want {
			list = append(list, behind)
		}
	}
	return opened(grammar, list)
}

// Every row of words that can go on is tried with every word behind it.
func TestWordsThatCannotStandByTheGrammar(t *testing.T) {
	grammar := rules()
	words := slices.Concat(keyTexts, signTexts, []string{"x", "7"})
	tried := 0
	var try func(text string, rests []string, left int)
	try = func(text string, rests []string, left int) {
		tried++
		_, fault := impl.Parse(text)
		if ends := slices.Contains(rests, ""); ends != (fault == impl.Fault{}) || !ends && fault != (impl.Fault{Code: impl.ErrForm, At: len(text)}) {
			t.Fatalf("%q: %v, it may end: %v", text, fault, ends)
		}
		if left == 0 {
			return
		}
		for _, one := range words {
			list, _ := impl.Words(one)
			behind := goesOn(grammar, rests, list[0])
			if len(behind) == 0 {
				wantNoTree(t, text+one+" ;", impl.ErrForm, len(text))
			} else {
				try(text+one+" ", behind, left-1)
			}
		}
	}
	try("", opened(grammar, []string{"PROG"}), 5)
	if tried < 1000 {
		t.Fatalf("%d rows", tried)
	}
}

// Programs with a word too many, too few, or another one.
func TestSpoiltProgramsByTheGrammar(t *testing.T) {
	grammar := rules()
	words := slices.Concat(keyTexts, signTexts, []string{"x", "7"})
	next := draws(5)
	for range 3000 {
		list, _ := impl.Words(impl.Print(someProgram(next)))
		if len(list) < 3 || len(list) > 300 {
			continue
		}
		at := next(len(list))
		other, _ := impl.Words(words[next(len(words))])
		list = slices.Replace(list, at, at+next(2), other[:next(2)]...)
		text := impl.WordsText(list)
		want := impl.Fault{Code: impl.ErrForm, At: len(text)}
		rests := opened(grammar, []string{"PROG"})
		list, _ = impl.Words(text)
		for _, w := range list {
			if rests = goesOn(grammar, rests, w); len(rests) == 0 {
				want.At = w.At
				break
			}
		}
		if slices.Contains(rests, "") {
			want = impl.Fault{}
		}
		if _, fault := impl.Parse(text); fault != want {
			t.Fatalf("%q: %v, want %v", text, fault, want)
		}
	}
}

func TestMostNodes(t *testing.T) {
	skips := slices.Repeat([]impl.Node{node(impl.StSkip)}, 499)
	most := program(skips[:498]...)
	if impl.CountNodes(most) != 500 {
		t.Fatal(impl.CountNodes(most))
	}
	wantPrinted(t, most, strings.Repeat("skip;\n", 498))
	wantNoProg(t, program(skips...))
	wantNoTree(t, strings.Repeat("skip;", 499), impl.ErrLarge, 0)
	wantNoTree(t, " "+strings.Repeat("skip;", 499)+"skip", impl.ErrForm, 2500)
	for size, ok := range map[int]bool{1: true, 499: true, 500: true, 501: false, 700: false} {
		n := wideExpr(size)
		if impl.CountNodes(n) != size || impl.ExprOk(n) != ok || (impl.ExprText(n) != "") != ok {
			t.Fatalf("an expression of %d nodes: %v", size, impl.ExprOk(n))
		}
		cond := node(impl.CdSame, number(1), wideExpr(size-2))
		if size > 2 && (impl.CountNodes(cond) != size || impl.CondOk(cond) != ok || (impl.ExprText(cond) != "") != ok) {
			t.Fatalf("a condition of %d nodes: %v", size, impl.CondOk(cond))
		}
	}
}

// wideExpr: an expression of so many nodes that is as flat as can be.
func wideExpr(size int) impl.Node {
	switch {
	case size < 2:
		return variable("x")
	case size == 2:
		return node(impl.ExNeg, variable("x"))
	}
	half := (size - 1) / 2
	return node(impl.ExAdd, wideExpr(half), wideExpr(size-1-half))
}

func TestDeepestTrees(t *testing.T) {
	most := program(named(impl.StSet, "x", nested(number(1), 20)))
	if impl.DepthOf(most) != 24 {
		t.Fatal(impl.DepthOf(most))
	}
	wantPrinted(t, most, "x = "+strings.Repeat("-", 20)+"1;\n")
	wantNoProg(t, program(named(impl.StSet, "x", nested(number(1), 21))))
	wantNoTree(t, "x = "+strings.Repeat("-", 21)+"1;", impl.ErrLarge, 0)
	wantNoTree(t, "x = "+strings.Repeat("-", 21)+"1", impl.ErrForm, 26)
	wantTree(t, "x = "+strings.Repeat("(", 700)+"1"+strings.Repeat(")", 700)+";", program(named(impl.StSet, "x", number(1))))
	wantNoTree(t, "x = "+strings.Repeat("(", 1400), impl.ErrForm, 1404)
	for times, ok := range map[int]bool{0: true, 22: true, 23: true, 24: false, 1000: false} {
		n := nested(number(1), times)
		if impl.DepthOf(n) != times+1 || impl.ExprOk(n) != ok || (impl.ExprText(n) == strings.Repeat("-", times)+"1") != ok {
			t.Fatalf("%d signs: %v %q", times, impl.ExprOk(n), impl.ExprText(n))
		}
		if n = node(impl.CdLess, n, number(1)); impl.CondOk(n) != (times < 23) || (impl.ExprText(n) != "") != (times < 23) {
			t.Fatalf("%d signs: %v %q", times, impl.CondOk(n), impl.ExprText(n))
		}
	}
	deep := block(node(impl.StSkip))
	for range 10 {
		deep = block(node(impl.StWhile, node(impl.CdLess, number(1), number(2)), deep))
	}
	n := node(impl.NdProg, deep)
	if impl.DepthOf(n) != 23 || !impl.ProgOk(n) || !strings.Contains(impl.Print(n), "\n"+strings.Repeat(" ", 20)+"skip;\n"+strings.Repeat(" ", 18)+"}\n") {
		t.Fatalf("%d deep: %q", impl.DepthOf(n), impl.Print(n))
	}
	wantPrinted(t, n, impl.Print(n))
}

func TestMostBytesOfPrint(t *testing.T) {
	long := variable("abcdefgh")
	list := slices.Repeat([]impl.Node{named(impl.StSet, "abcdefgh", long)}, 190) // 3990 bytes
	text := strings.Repeat("abcdefgh = abcdefgh;\n", 190)
	wantPrinted(t, program(append(list, named(impl.StSet, "a", variable("bcde")))...), text+"a = bcde;\n")
	wantNoProg(t, program(append(list, named(impl.StSet, "a", variable("bcdef")))...))
	// Read from a text without blanks, it may have too long a Print.
	short := strings.ReplaceAll(text, " ", "") + "a=bcdef;"
	if n, fault := impl.Parse(short); fault != (impl.Fault{}) || impl.CountNodes(n) != 384 {
		t.Fatalf("%v %v", n, fault)
	} else {
		wantNoProg(t, n)
	}
}

// What no text of MaxWords words has is given by Parse for none.
func TestMostWordsOfPrint(t *testing.T) {
	n := node(impl.NdProg, slices.Repeat([]impl.Node{array("a", -1)}, 250)...)
	n.Kids = append(n.Kids, block())
	wantPrinted(t, n, strings.Repeat("array a[?];\n", 250))
	n.Kids[250] = block(node(impl.StSkip))
	wantNoProg(t, n)
	n.Kids = slices.Insert(n.Kids[:250:250], 0, array("a", -1), block())
	wantNoProg(t, n)
}

// longExpr: 4219 bytes less those that are cut from its names.
func longExpr(cut, deep int) (impl.Node, int) {
	if deep == 0 {
		n := variable("abcdefgh")
		for range 12 {
			less := min(cut, 7)
			cut -= less
			n = named(impl.ExCell, "abcdefgh"[less:], n)
		}
		return n, cut
	}
	left, cut := longExpr(cut, deep-1)
	right, cut := longExpr(cut, deep-1)
	return node(impl.ExAdd, left, right), cut
}

func TestMostBytesOfExprText(t *testing.T) {
	most, _ := longExpr(219, 5)
	if text := impl.ExprText(most); len(text) != 4000 || !impl.ExprOk(most) {
		t.Fatalf("%d bytes", len(text))
	}
	for _, cut := range []int{0, 100, 218} {
		n, _ := longExpr(cut, 5)
		if !impl.ExprOk(n) || impl.ExprText(n) != "" {
			t.Fatalf("%d cut: %v, %d bytes", cut, impl.ExprOk(n), len(impl.ExprText(n)))
		}
		wantNoProg(t, program(named(impl.StSet, "x", n)))
	}
	most, _ = longExpr(224, 5)
	cond := node(impl.CdMost, number(1), most)
	if text := impl.ExprText(cond); len(text) != 4000 || !impl.CondOk(cond) {
		t.Fatalf("%d bytes", len(text))
	}
	most, _ = longExpr(223, 5)
	cond.Kids[1] = most
	if impl.ExprText(cond) != "" || !impl.CondOk(cond) {
		t.Fatalf("%d bytes", len(impl.ExprText(cond)))
	}
	most, _ = longExpr(225, 5)
	wantPrinted(t, program(named(impl.StSet, "x", most)), "x = "+impl.ExprText(most)+";\n")
	most, _ = longExpr(224, 5)
	wantNoProg(t, program(named(impl.StSet, "x", most)))
}

// spoils: a tree with one thing wrong at its root.
func spoils(n impl.Node) []impl.Node {
	var list []impl.Node
	with := func(change func(n *impl.Node)) {
		one := copyTree(n)
		change(&one)
		list = append(list, one)
	}
	for _, kind := range []int{-1, 0, 9, 10, 17, 20, 33, 39, 41, 1 << 40} {
		with(func(n *impl.Node) { n.Kind = kind })
	}
	if n.Name == "" {
		with(func(n *impl.Node) { n.Name = "x" })
		with(func(n *impl.Node) { n.Name = "if" })
	} else {
		for _, name := range []string{"", "if", "len", "A", "1", "1a", "abcdefghi", "a b", "x ", "+", "x\n", "é"} {
			with(func(n *impl.Node) { n.Name = name })
		}
	}
	switch n.Kind {
	case impl.ExNum:
		with(func(n *impl.Node) { n.Num = -1 })
		with(func(n *impl.Node) { n.Num = 1000001 })
	case impl.DcArray:
		with(func(n *impl.Node) { n.Num = -2 })
		with(func(n *impl.Node) { n.Num = 1000001 })
	default:
		with(func(n *impl.Node) { n.Num = 1 })
		with(func(n *impl.Node) { n.Num = -1 })
	}
	for _, kid := range []impl.Node{{}, number(1), node(impl.CdLess, number(1), number(2)), node(impl.StSkip), block(), named(impl.DcVar, "x"), node(impl.NdProg, block())} {
		if n.Kind != impl.StBlock || kid.Kind != impl.StSkip {
			with(func(n *impl.Node) { n.Kids = append(n.Kids, kid) })
		}
		if len(n.Kids) > 0 && !sameGroup(kid.Kind, n.Kids[0].Kind) && (n.Kind != impl.NdProg || kid.Kind != impl.DcVar) {
			with(func(n *impl.Node) { n.Kids[0] = kid })
		}
	}
	if len(n.Kids) > 0 && n.Kind != impl.StBlock {
		with(func(n *impl.Node) { n.Kids = n.Kids[:len(n.Kids)-1] })
		with(func(n *impl.Node) { n.Kids = nil })
	}
	return list
}

func sameGroup(a, b int) bool {
	group := func(kind int) int {
		switch {
		case kind < impl.ExNum:
			return 0
		case kind < impl.StBlock:
			return 1 + kind/10
		case kind == impl.StBlock:
			return 4
		}
		return 5 + kind/10
	}
	return group(a) == group(b)
}

func TestSpoiltExpressions(t *testing.T) {
	x, one := variable("x"), number(1)
	list := []impl.Node{one, x, named(impl.ExLen, "a"), named(impl.ExCell, "a", x), node(impl.ExNeg, x)}
	for kind := impl.ExAdd; kind <= impl.CdOther; kind++ {
		if kind <= impl.ExMul || kind >= impl.CdLess {
			list = append(list, node(kind, x, one))
		}
	}
	for _, n := range list {
		wantExpr(t, n, impl.ExprText(n))
		for _, bad := range spoils(n) {
			wantNoExpr(t, bad)
			wantNoExpr(t, node(impl.ExAdd, bad, x))
			wantNoExpr(t, node(impl.ExAdd, x, bad))
			wantNoExpr(t, node(impl.CdSame, x, node(impl.ExNeg, bad)))
			wantNoProg(t, program(named(impl.StSet, "x", bad)))
			wantNoProg(t, program(node(impl.StCheck, bad)))
			wantNoProg(t, bad)
		}
	}
	for _, kind := range []int{impl.StSkip, impl.StStop, impl.StBlock, 0} {
		wantNoExpr(t, node(kind))
	}
	wantNoExpr(t, program(node(impl.StSkip)))
	wantNoProg(t, one)
	wantNoProg(t, node(impl.StSkip))
	wantNoProg(t, block(node(impl.StSkip)))
	wantNoProg(t, node(impl.NdProg))
	wantNoProg(t, impl.Node{})
}

func TestSpoiltPrograms(t *testing.T) {
	x, one, skip := variable("x"), number(1), node(impl.StSkip)
	cond := node(impl.CdLess, x, one)
	for _, n := range []impl.Node{skip, node(impl.StStop), named(impl.StRead, "x"), named(impl.StSet, "x", one), named(impl.StPut, "a", x, one),
		node(impl.StCheck, cond), node(impl.StWhile, cond, block(skip)), node(impl.StIf, cond, block(skip), block(skip)),
		named(impl.StFor, "x", one, x, block(skip))} {
		wantPrinted(t, program(n), impl.Print(program(n)))
		for _, bad := range spoils(n) {
			wantNoProg(t, program(bad))
			wantNoProg(t, program(skip, bad))
			wantNoProg(t, program(node(impl.StIf, cond, block(), block(bad))))
			wantNoProg(t, program(named(impl.StFor, "x", one, one, block(skip, bad))))
			wantNoExpr(t, bad)
		}
	}
	for _, n := range []impl.Node{named(impl.DcVar, "x"), array("a", -1), array("a", 3)} {
		for _, bad := range spoils(n) {
			wantNoProg(t, node(impl.NdProg, bad, block(skip)))
		}
		wantNoProg(t, node(impl.NdProg, block(skip), n))
		wantNoProg(t, program(n))
		wantNoProg(t, node(impl.NdProg, n))
	}
	for _, bad := range spoils(block(skip)) {
		wantNoProg(t, node(impl.NdProg, bad))
		wantNoProg(t, program(node(impl.StWhile, cond, bad)))
	}
	for _, bad := range spoils(program(skip)) {
		wantNoProg(t, bad)
	}
	wantNoProg(t, node(impl.NdProg, skip, block()))
	wantNoProg(t, node(impl.NdProg, block(), block(skip)))
	wantNoProg(t, program(block(skip)))
}

func TestCountsOfAnyTree(t *testing.T) {
	for _, one := range []struct {
		n           impl.Node
		count, deep int
	}{
		{impl.Node{}, 1, 1},
		{impl.Node{Kids: []impl.Node{}}, 1, 1},
		{node(99, node(-5), number(-7), node(0, node(0, node(0)))), 6, 4},
		{program(), 2, 2},
		{node(impl.StSkip, node(impl.NdProg), node(7, node(8))), 4, 3},
		{nested(impl.Node{}, 2000), 2001, 2001},
		{node(0, slices.Repeat([]impl.Node{nested(impl.Node{}, 2)}, 5000)...), 15001, 4},
	} {
		if impl.CountNodes(one.n) != one.count || impl.DepthOf(one.n) != one.deep {
			t.Errorf("%.100v: %d nodes, %d deep", one.n, impl.CountNodes(one.n), impl.DepthOf(one.n))
		}
	}
	next := draws(6)
	var count, deep func(n impl.Node) int
	count = func(n impl.Node) int {
		sum := 1
		for _, kid := range n.Kids {
			sum += count(kid)
		}
		return sum
	}
	deep = func(n impl.Node) int {
		most := 0
		for _, kid := range n.Kids {
			most = max(most, deep(kid))
		}
		return most + 1
	}
	for range 300 {
		if n := someProgram(next); impl.CountNodes(n) != count(n) || impl.DepthOf(n) != deep(n) {
			t.Fatalf("%v: %d nodes, %d deep", n, impl.CountNodes(n), impl.DepthOf(n))
		}
	}
}

// Trees that are far past the limits, by their depth or by lists that stand in
// them again and again, are refused all the same.
func TestHugeTrees(t *testing.T) {
	deep := nested(number(1), 1000000)
	if impl.CountNodes(deep) != 1000001 || impl.DepthOf(deep) != 1000001 {
		t.Fatalf("%d nodes, %d deep", impl.CountNodes(deep), impl.DepthOf(deep))
	}
	wantHuge := func(n impl.Node) {
		t.Helper()
		if impl.ExprOk(n) || impl.CondOk(n) || impl.ProgOk(n) || impl.Print(n)+impl.ExprText(n) != "" {
			t.Error("a huge tree is taken")
		}
	}
	wantHuge(deep)
	wantHuge(program(named(impl.StSet, "x", deep)))
	wide := number(1)
	for range 60 {
		wide = node(impl.ExAdd, wide, wide)
	}
	wantHuge(wide)
	wantHuge(program(named(impl.StSet, "x", wide)))
	ring := make([]impl.Node, 2)
	ring[0] = node(impl.ExAdd, ring...)
	ring[0].Kids = ring
	ring[1] = ring[0]
	wantHuge(ring[0])
}

// What lies behind a list's length is not read, and what is read shares no
// memory with what was read before.
func TestTreesKeepNothing(t *testing.T) {
	list := []impl.Node{node(impl.StSkip), {Kind: -1}, node(impl.StStop)}
	n := node(impl.NdProg, block(list[:1]...))
	for range 2 {
		wantPrinted(t, n, "skip;\n")
	}
	if list[1].Kind != -1 || list[2].Kind != impl.StStop {
		t.Fatalf("%v", list)
	}
	const text = "var x; array a[3]; x = a[1] + len(a); if x < 1 { skip; } else { stop; }"
	first, _ := impl.Parse(text)
	want := copyTree(first)
	wipe(t, map[*impl.Node]int{}, &first)
	wantTree(t, text, want)
	wantNoTree(t, text+"!", impl.ErrWord, len(text))
	wantNoTree(t, text+"1", impl.ErrForm, len(text))
	wantTree(t, text, want)
	empty := node(impl.NdProg, impl.Node{Kind: impl.StBlock, Kids: []impl.Node{{Kind: impl.StRead, Name: "x" + strconv.Itoa(1), Kids: []impl.Node{}}}})
	wantPrinted(t, empty, "read x1;\n")
}
