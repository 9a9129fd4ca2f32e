package tests

import (
	"slices"
	"strings"
	"testing"

	"loop.example/g00093/impl"
)

var keyTexts = strings.Fields("array check else for from if len read skip stop to var while")

var signTexts = strings.Fields("+ - * ( ) [ ] { } ; = < > ? == != <= >=")

var nameTexts = strings.Fields("a z x1 a0 i0j9 abcdefgh z9999999 iff forx to1 lens elsewher va vars wh1le")

var numTexts = strings.Fields("0 1 7 9 10 100 999999 1000000")

func word(kind int, text string, at int) impl.Word {
	return impl.Word{Kind: kind, Text: text, At: at}
}

func samples() []impl.Word {
	var list []impl.Word
	for kind, texts := range map[int][]string{1: nameTexts, 2: numTexts, 3: signTexts, 4: keyTexts} {
		for _, text := range texts {
			list = append(list, word(kind, text, 0))
		}
	}
	slices.SortFunc(list, func(a, b impl.Word) int { return strings.Compare(a.Text, b.Text) })
	return list
}

// apart: whether two words need something between them to be read as the two.
func apart(a, b impl.Word) bool {
	if a.Kind != impl.WdSign && b.Kind != impl.WdSign {
		return true
	}
	return (a.Text == "=" || a.Text == "<" || a.Text == ">") && strings.HasPrefix(b.Text, "=")
}

func withoutPlaces(list []impl.Word) []impl.Word {
	out := slices.Clone(list)
	for i := range out {
		out[i].At = 0
	}
	return out
}

func wantWords(t *testing.T, text string, want []impl.Word) {
	t.Helper()
	got, fault := impl.Words(text)
	if fault != (impl.Fault{}) || !slices.Equal(got, want) {
		t.Fatalf("Words(%.80q) = %v %v, want %v", text, got, fault, want)
	}
}

func wantFault(t *testing.T, text string, code, at int) {
	t.Helper()
	got, fault := impl.Words(text)
	if fault != (impl.Fault{Code: code, At: at}) || len(got) != 0 {
		t.Fatalf("Words(%.80q) = %d words, %v, want fault %d at %d", text, len(got), fault, code, at)
	}
}

func TestWordConstants(t *testing.T) {
	got := []int{impl.MaxText, impl.MaxWords, impl.MaxName, impl.MaxVal,
		impl.WdName, impl.WdNum, impl.WdSign, impl.WdKey,
		impl.OK, impl.ErrLong, impl.ErrWord, impl.ErrMany}
	if want := []int{4000, 1500, 8, 1000000, 1, 2, 3, 4, 0, 1, 2, 3}; !slices.Equal(got, want) {
		t.Fatalf("%v, want %v", got, want)
	}
}

// Promise 1: each word is read back where it was written, whatever parts it
// from its neighbours; and nothing has to where the two can stand together.
func TestWordsAreReadBack(t *testing.T) {
	gaps := []string{" ", "\n", "  \n ", "#\n", " # 007 ! \"é\xff\" # \n", "\n#a\n#b\n"}
	all := samples()
	for _, a := range all {
		for _, b := range all {
			for _, gap := range gaps {
				text := gap + a.Text + gap + b.Text + gap
				first := len(gap)
				second := first + len(a.Text) + len(gap)
				wantWords(t, text, []impl.Word{word(a.Kind, a.Text, first), word(b.Kind, b.Text, second)})
			}
			if !apart(a, b) {
				wantWords(t, a.Text+b.Text, []impl.Word{word(a.Kind, a.Text, 0), word(b.Kind, b.Text, len(a.Text))})
			}
		}
	}
}

// Promise 1: rows of words, written close where they can be, and by WordsText.
func TestRowsOfWordsAreReadBack(t *testing.T) {
	all := samples()
	seed := 1
	next := func(n int) int {
		seed = (seed*1103515245 + 12345) % (1 << 31)
		return seed / 65536 % n
	}
	for round := range 500 {
		var text strings.Builder
		var list []impl.Word
		for range round % 60 {
			w := all[next(len(all))]
			if len(list) > 0 && (apart(list[len(list)-1], w) || next(3) == 0) {
				text.WriteString([]string{" ", "\n", "#x\n"}[next(3)])
			}
			w.At = text.Len()
			text.WriteString(w.Text)
			list = append(list, w)
		}
		wantWords(t, text.String(), list)
		wantSameAgain(t, list)
	}
}

// wantSameAgain: what WordsText writes is read as the same words, each where
// one blank between puts it, and is written as the same text.
func wantSameAgain(t *testing.T, list []impl.Word) {
	t.Helper()
	text := impl.WordsText(list)
	again, fault := impl.Words(text)
	if fault != (impl.Fault{}) || !slices.Equal(withoutPlaces(again), withoutPlaces(list)) {
		t.Fatalf("%v, as %q, is read as %v %v", list, text, again, fault)
	}
	at := 0
	for _, w := range again {
		if w.At != at || !impl.WordOk(w) {
			t.Fatalf("%q: %v, want it at %d", text, w, at)
		}
		at += len(w.Text) + 1
	}
	if impl.WordsText(again) != text {
		t.Fatalf("%q is not written as itself", text)
	}
}

func TestWordsOfATextAreWrittenAndReadAgain(t *testing.T) {
	for _, text := range []string{
		"",
		"var i; array a[?]; for i from 0 to len(a) { a[i] = -i*2; }",
		"x=-1;y==x!=z<=1>=2<3>4;#end",
		"if x<y{skip;}else{stop;}while a[i]!=0{check i<len(a);read x;}",
	} {
		list, fault := impl.Words(text)
		if fault != (impl.Fault{}) {
			t.Fatalf("%q: %v", text, fault)
		}
		wantSameAgain(t, list)
	}
}

func TestLongestSignFirst(t *testing.T) {
	for text, want := range map[string]string{
		"=": "=", "==": "==", "===": "== =", "====": "== ==", "<=": "<=", "<==": "<= =",
		">==": ">= =", "!==": "!= =", "=!=": "= !=", "=>": "= >", "=>=": "= >=", "=<": "= <",
		"<<=": "< <=", "<>": "< >", "><": "> <", "= =": "= =", "< =": "< =", "--": "- -",
		"=-1": "= - 1", "()": "( )", "[?]": "[ ? ]", "{};": "{ } ;", "=\n=": "= =", "=#\n=": "= =",
	} {
		list, fault := impl.Words(text)
		if got := impl.WordsText(list); got != want || fault.Code != impl.OK {
			t.Errorf("%q is read as %q %v, want %q", text, got, fault, want)
		}
	}
}

func TestLoneMarkIsNoWord(t *testing.T) {
	wantFault(t, "!", impl.ErrWord, 0)
	wantFault(t, "x!", impl.ErrWord, 1)
	wantFault(t, "x ! = y", impl.ErrWord, 2)
	wantFault(t, "!!=", impl.ErrWord, 0)
	wantFault(t, "x!=!", impl.ErrWord, 3)
	wantFault(t, "=!", impl.ErrWord, 1)
	wantFault(t, "!\n=", impl.ErrWord, 0)
}

func TestLettersAndDigitsStandTogether(t *testing.T) {
	wantWords(t, "a1", []impl.Word{word(1, "a1", 0)})
	wantWords(t, "a 1", []impl.Word{word(1, "a", 0), word(2, "1", 2)})
	wantWords(t, "if1", []impl.Word{word(1, "if1", 0)})
	wantWords(t, "iff if", []impl.Word{word(1, "iff", 0), word(4, "if", 4)})
	wantWords(t, "varvar", []impl.Word{word(1, "varvar", 0)})
	for _, text := range []string{"1a", "1if", "0a", "9z9", "00", "007", "01", "0000000", "1000001",
		"10000000", "99999999999999999999999999", "18446744073709551617", "abcdefghi", "a12345678", "whilewhile"} {
		wantFault(t, text, impl.ErrWord, 0)
		wantFault(t, "if "+text, impl.ErrWord, 3)
		wantFault(t, "x="+text+";", impl.ErrWord, 2)
	}
	wantFault(t, "a[1a]!", impl.ErrWord, 2)
}

func TestNotes(t *testing.T) {
	x := []impl.Word{word(1, "x", 0)}
	for _, text := range []string{"x#", "x #", "x#\n", "x#y", "x # y\n", "x##", "x#\n#", "x#é", "x#\xff\x00\t!", "x#\xe2\n"} {
		wantWords(t, text, x)
	}
	for _, text := range []string{"", " ", "\n", " \n \n", "#", "##", "#\n", " # x = 1;", "#a\n#b", "# 007\n"} {
		wantWords(t, text, nil)
	}
	wantWords(t, "x#y\nz", []impl.Word{word(1, "x", 0), word(1, "z", 4)})
	wantWords(t, "#é\nz", []impl.Word{word(1, "z", 4)})
	wantWords(t, "#\xe2\nz", []impl.Word{word(1, "z", 3)})
	wantFault(t, "#a\n!", impl.ErrWord, 3)
	wantFault(t, "#é\xff\n 1a", impl.ErrWord, 6)
	wantFault(t, "x # a\rb\n\r", impl.ErrWord, 8)
}

// Every byte stands alone, behind a word with and without a blank, and ahead
// of one; those that begin no word are told at their place in bytes.
func TestBytesThatAreNoWord(t *testing.T) {
	good := " \n#+-*()[]{};=<>?abcdefghijklmnopqrstuvwxyz0123456789"
	for b := range 256 {
		one := string([]byte{byte(b)})
		if strings.Contains(good, one) {
			if _, fault := impl.Words(one); fault != (impl.Fault{}) {
				t.Errorf("%q: %v", one, fault)
			}
			continue
		}
		wantFault(t, one, impl.ErrWord, 0)
		wantFault(t, "x"+one, impl.ErrWord, 1)
		wantFault(t, "12 "+one+" x", impl.ErrWord, 3)
		wantFault(t, "# "+one+"\n;"+one, impl.ErrWord, 5)
		if b != '!' {
			wantFault(t, one+"=", impl.ErrWord, 0)
		}
	}
	for _, text := range []string{"é", "٣", "ａ", "\u00a0", "\u2028", "\xe2\x82", "\xc0\x80", "\xed\xa0\x80", "\ufeff", "\ufffd", "😀"} {
		wantFault(t, text, impl.ErrWord, 0)
		wantFault(t, "x="+text+"1", impl.ErrWord, 2)
	}
	wantFault(t, "aB", impl.ErrWord, 1)
	wantFault(t, "IF", impl.ErrWord, 0)
	wantFault(t, "x\ty", impl.ErrWord, 1)
	wantFault(t, "x;\r\ny;", impl.ErrWord, 2)
}

func TestTextsOfMostBytes(t *testing.T) {
	wantWords(t, strings.Repeat(" ", 3999)+"x", []impl.Word{word(1, "x", 3999)})
	wantWords(t, strings.Repeat(" ", 4000), nil)
	wantWords(t, "x#"+strings.Repeat("é", 1999), []impl.Word{word(1, "x", 0)})
	wantFault(t, strings.Repeat(" ", 3999)+"!", impl.ErrWord, 3999)
	wantFault(t, strings.Repeat(" ", 4000)+"x", impl.ErrLong, 0)
	wantFault(t, strings.Repeat(" ", 4001), impl.ErrLong, 0)
	wantFault(t, "#"+strings.Repeat("é", 2000), impl.ErrLong, 0)
	wantFault(t, strings.Repeat("a", 100000), impl.ErrLong, 0)
}

func TestLongTextIsToldFirst(t *testing.T) {
	wantFault(t, "!"+strings.Repeat(" ", 4000), impl.ErrLong, 0)
	wantFault(t, strings.Repeat(";", 4001), impl.ErrLong, 0)
	wantFault(t, strings.Repeat(";", 2000)+strings.Repeat("\xff", 2001), impl.ErrLong, 0)
	wantFault(t, strings.Repeat(";", 4000), impl.ErrMany, 1500)
}

func TestMostWords(t *testing.T) {
	most := strings.Repeat("x;", 750)
	list, fault := impl.Words(most)
	if len(list) != 1500 || fault != (impl.Fault{}) || list[1499] != word(3, ";", 1499) {
		t.Fatalf("%d words, %v", len(list), fault)
	}
	if list, fault = impl.Words(most + " # x\n "); len(list) != 1500 || fault != (impl.Fault{}) {
		t.Fatalf("%d words, %v", len(list), fault)
	}
	wantFault(t, most+"x", impl.ErrMany, 1500)
	wantFault(t, most+" \n# x\n  ==", impl.ErrMany, 1508)
}

// Of ErrWord and ErrMany the one that comes first; what is no word is not one
// too many.
func TestWrongWordAndManyWords(t *testing.T) {
	most := strings.Repeat(";", 1500)
	wantFault(t, most+"!", impl.ErrWord, 1500)
	wantFault(t, most+" 007 x", impl.ErrWord, 1501)
	wantFault(t, most+"x!", impl.ErrMany, 1500)
	wantFault(t, most+" x 007", impl.ErrMany, 1501)
	wantFault(t, ";!"+most, impl.ErrWord, 1)
	wantFault(t, strings.Repeat(";", 1499)+"A"+most, impl.ErrWord, 1499)
}

func TestWordOkBySort(t *testing.T) {
	for _, w := range samples() {
		for kind := -1; kind <= 6; kind++ {
			if got := impl.WordOk(word(kind, w.Text, 0)); got != (kind == w.Kind) {
				t.Errorf("WordOk of %q with kind %d: %v", w.Text, kind, got)
			}
		}
	}
	for _, text := range []string{"", " ", "\n", "#", "# x", "!", "a b", " a", "a ", "a\n", "A", "aB", "1a", "é", "\xff",
		"00", "007", "1000001", "9999999999", "-1", "+1", "1_0", "18446744073709551616", "abcdefghi", "=!", "===", "=>",
		"()", "&", "\x00", "٣", "x\x00", "x#", strings.Repeat("a", 5000), strings.Repeat("1", 5000)} {
		for kind := -1; kind <= 6; kind++ {
			if impl.WordOk(word(kind, text, 0)) {
				t.Errorf("WordOk of %.20q with kind %d", text, kind)
			}
		}
	}
	if impl.WordOk(impl.Word{}) || impl.WordOk(word(int(^uint(0)>>1), "x", 0)) {
		t.Error("WordOk of no kind")
	}
}

func TestWordOkByPlace(t *testing.T) {
	most := int(^uint(0) >> 1)
	for at, want := range map[int]bool{-most - 1: false, -1: false, 0: true, 1: true, 3999: true, 4000: true, 4001: false, most: false} {
		for _, w := range samples() {
			if w.At = at; impl.WordOk(w) != want {
				t.Errorf("WordOk of %q at %d: %v", w.Text, at, !want)
			}
		}
	}
}

func TestWordsTextOfWrongWords(t *testing.T) {
	good := word(1, "x", 7)
	for _, bad := range []impl.Word{{}, word(2, "x", 0), word(1, "if", 0), word(4, "x", 0), word(2, "007", 0),
		word(3, "!", 0), word(1, "", 0), word(1, "x", -1), word(1, "x", 4001), word(0, "x", 0), word(1, "x y", 0)} {
		for _, list := range [][]impl.Word{{bad}, {bad, good}, {good, bad}, {good, bad, good}} {
			if got := impl.WordsText(list); got != "" {
				t.Errorf("WordsText(%v) = %q", list, got)
			}
		}
	}
	if got := impl.WordsText([]impl.Word{good}); got != "x" {
		t.Errorf("%q", got)
	}
	if got := impl.WordsText([]impl.Word{word(3, "=", 4000), word(3, "=", 0), good}); got != "= = x" {
		t.Errorf("%q", got)
	}
	if impl.WordsText(nil) != "" || impl.WordsText([]impl.Word{}) != "" {
		t.Error("WordsText of no words")
	}
}

func TestWordsTextLimits(t *testing.T) {
	most := slices.Repeat([]impl.Word{word(3, ";", 0)}, 1500)
	if got := impl.WordsText(most); got != strings.TrimSuffix(strings.Repeat("; ", 1500), " ") {
		t.Fatalf("MaxWords words: %d bytes", len(got))
	}
	if got := impl.WordsText(append(most, word(3, ";", 0))); got != "" {
		t.Fatalf("MaxWords words and one: %d bytes", len(got))
	}
	long := slices.Repeat([]impl.Word{word(1, "abcdefgh", 0)}, 444) // 3995 bytes
	if got := impl.WordsText(append(long, word(1, "abcd", 0))); len(got) != 4000 || !strings.HasSuffix(got, " abcdefgh abcd") {
		t.Fatalf("MaxText bytes: %d", len(got))
	}
	if got := impl.WordsText(append(long, word(1, "abcde", 0))); got != "" {
		t.Fatalf("MaxText bytes and one: %d", len(got))
	}
}

// Words behind a list's length are not read, the list stays as it was, and
// what was answered once is not what is answered again.
func TestWordsKeepNothing(t *testing.T) {
	list := []impl.Word{word(1, "x", 0), word(3, "=", 2), word(2, "1", 4), {}, word(9, "\xff", -1)}
	before := slices.Clone(list)
	for range 2 {
		if got := impl.WordsText(list[:3]); got != "x = 1" {
			t.Fatalf("%q", got)
		}
		impl.WordsText(list)
	}
	if !slices.Equal(list, before) {
		t.Fatalf("%v", list)
	}
	first, _ := impl.Words("x = 1")
	for i := range first {
		first[i] = impl.Word{}
	}
	wantWords(t, "x = 1", before[:3])
	wantFault(t, "x = !", impl.ErrWord, 4)
	wantWords(t, "x = 1", before[:3])
}
