package impl

import "strings"

const (
	MaxText  = 4000
	MaxWords = 1500
	MaxName  = 8
	MaxVal   = 1000000
)

// The kind 0 is that of no word, so the zero Word is none.
const (
	wdNone = iota
	WdName
	WdNum
	WdSign
	WdKey
)

const (
	OK       = 0
	ErrLong  = 1
	ErrWord  = 2
	ErrMany  = 3
	ErrForm  = 4
	ErrLarge = 5
)

type Word struct {
	Kind int
	Text string
	At   int
}

type Fault struct {
	Code int
	At   int
}

// Words gives the words of a text, or the fault that comes first in it.
func Words(text string) ([]Word, Fault) {
	if len(text) > MaxText {
		return nil, Fault{Code: ErrLong}
	}
	var list []Word
	done := 0 // the bytes ahead of it belong to a word or a note that was met
	for at, r := range text {
		if at < done || isBlank(r) {
			continue
		}
		if r == '#' {
			done = at + noteSize(text[at:])
			continue
		}
		found := longestWord(text[at:])
		kind := kindOf(found)
		// What is no word cannot be one word too many.
		if kind == wdNone {
			return nil, Fault{Code: ErrWord, At: at}
		}
		if len(list) == MaxWords {
			return nil, Fault{Code: ErrMany, At: at}
		}
		list = append(list, Word{Kind: kind, Text: strings.Clone(found), At: at})
		done = at + len(found)
	}
	return list, Fault{}
}

// WordOk tells whether a word can be one of some text.
func WordOk(w Word) bool {
	kind := kindOf(w.Text)
	return kind != wdNone && kind == w.Kind && w.At >= 0 && w.At <= MaxText
}

// WordsText writes words with one blank between.
func WordsText(list []Word) string {
	if len(list) > MaxWords {
		return ""
	}
	// A builder and no join: a join of one text would hand out that text itself.
	var out strings.Builder
	for i, w := range list {
		if !WordOk(w) {
			return ""
		}
		if i > 0 {
			out.WriteByte(' ')
		}
		out.WriteString(w.Text)
	}
	if out.Len() > MaxText {
		return ""
	}
	return out.String()
}

// noteSize counts the bytes of the note with which a text begins.
func noteSize(text string) int {
	if end := strings.IndexByte(text, '\n'); end >= 0 {
		return end
	}
	return len(text)
}

// longestWord gives the bytes at the beginning of a text that have to be one
// word, whether they are one or not: letters and digits are never parted.
func longestWord(text string) string {
	size := 0
grow:
	for at, r := range text {
		switch {
		case isLetter(r), isDigit(r):
			size = at + 1
		default:
			break grow
		}
	}
	if size == 0 {
		return longestSign(text)
	}
	return text[:size]
}

// longestSign gives the sign at the beginning of a text, or the empty text.
func longestSign(text string) string {
	for size := min(2, len(text)); size > 0; size-- {
		if isSign(text[:size]) {
			return text[:size]
		}
	}
	return ""
}

// kindOf gives the kind of the word that a whole text is, or wdNone.
func kindOf(text string) int {
	switch {
	case isName(text):
		return WdName
	case isNum(text):
		return WdNum
	case isSign(text):
		return WdSign
	case isKey(text):
		return WdKey
	}
	return wdNone
}

func isKey(text string) bool {
	switch text {
	case "array", "check", "else", "for", "from", "if", "len",
		"read", "skip", "stop", "to", "var", "while":
		return true
	}
	return false
}

func isSign(text string) bool {
	switch text {
	case "+", "-", "*", "(", ")", "[", "]", "{", "}", ";",
		"=", "<", ">", "?", "==", "!=", "<=", ">=":
		return true
	}
	return false
}

func isName(text string) bool {
	if len(text) > MaxName || isKey(text) {
		return false
	}
	for at, r := range text {
		if !isLetter(r) && (at == 0 || !isDigit(r)) {
			return false
		}
	}
	return text != ""
}

func isNum(text string) bool {
	num := 0
	for at, r := range text {
		if !isDigit(r) || at > 0 && num == 0 {
			return false
		}
		num = num*10 + int(r-'0')
		// Left at once, so that no count of digits makes num wrap round.
		if num > MaxVal {
			return false
		}
	}
	return text != ""
}

func isBlank(r rune) bool { return r == ' ' || r == '\n' }

func isLetter(r rune) bool { return r >= 'a' && r <= 'z' }

func isDigit(r rune) bool { return r >= '0' && r <= '9' }
