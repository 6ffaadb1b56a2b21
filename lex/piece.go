package lex

import (
	"strings"

	"weftway/api"
	"weftway/num"
)

const (
	blanks = " \t\n\r"
	// shortSigns are the signs of one byte.
	shortSigns = "(){}<>,;:=&*.+-/%"
	// wordList is the words, with a blank between any two.
	wordList = "let if else while match scope spawn lock as chan drop fn struct enum true false and or not int bool unit mut box unbox cell get set rc arc clone mutex open atomic load store fetch send recv Box Cell Rc Arc Mutex Atomic Sender Receiver"
)

// none is the kind of what is no token.
const none uint8 = 0

// makeWords makes the map in which words are looked for: each has its kind there, all else none.
func makeWords() map[string]uint8 {
	list := strings.Fields(wordList)
	words := make(map[string]uint8, len(list))
	for _, w := range list {
		words[w] = TWord
	}
	return words
}

// isWord says whether s is one of the words: of a single text it is told sooner by the list than by a map that is made for it.
func isWord(s string) bool {
	return len(s) <= api.MaxName && !strings.Contains(s, " ") && strings.Contains(" "+wordList+" ", " "+s+" ")
}

// pastBetween tells where, from at on, the blanks and remarks of s are over.
func pastBetween(s string, at int) int {
	for at < len(s) {
		switch {
		case strings.IndexByte(blanks, s[at]) >= 0:
			at++
		case strings.HasPrefix(s[at:], "//"):
			at = lineEnd(s, at)
		default:
			return at
		}
	}
	return at
}

// lineEnd tells where, from at on, the next byte 10 of s stands: at its end, if there is none.
func lineEnd(s string, at int) int {
	if n := strings.IndexByte(s[at:], '\n'); n >= 0 {
		return at + n
	}
	return len(s)
}

// together is what stands at the beginning of s, which isn't empty, and belongs together, be it a token or not: limits are not asked here, so that what is too long or too great is not taken for two tokens.
func together(s string) string {
	switch {
	case isSmall(s[0]) || isGreat(s[0]):
		return s[:countFront(s, isNameByte)]
	case isDigit(s[0]):
		return s[:countFront(s, isDigit)]
	case len(s) > 1 && isSign(s[:2]):
		return s[:2]
	}
	return s[:1]
}

// kindOf tells of which kind of token the whole of s, be it a word or not, is; none, if it isn't one.
func kindOf(s string, isWord bool) uint8 {
	switch {
	case s == "":
		return none
	case isWord:
		return TWord
	case isSmall(s[0]) && isNameLike(s):
		return TName
	case isGreat(s[0]) && isNameLike(s):
		return TType
	case isDigit(s[0]) && isNumeral(s):
		return TNumber
	case isSign(s):
		return TSign
	}
	return none
}

// isNameLike says whether s is no longer than a name may be, and has only bytes that may stand in one.
func isNameLike(s string) bool {
	return len(s) <= api.MaxName && countFront(s, isNameByte) == len(s)
}

// isNumeral says whether s says a number that is not too great.
func isNumeral(s string) bool {
	_, e := num.Parse(s)
	return e == api.OK
}

// isSign says whether s is one of the signs.
func isSign(s string) bool {
	switch s {
	case "==", "=>", "->":
		return true
	}
	return len(s) == 1 && strings.Contains(shortSigns, s)
}

// countFront tells how many bytes at the beginning of s belong.
func countFront(s string, belongs func(b byte) bool) int {
	n := 0
	for n < len(s) && belongs(s[n]) {
		n++
	}
	return n
}

func isSmall(b byte) bool { return 'a' <= b && b <= 'z' }

func isGreat(b byte) bool { return 'A' <= b && b <= 'Z' }

func isDigit(b byte) bool { return '0' <= b && b <= '9' }

// isNameByte says whether b may stand in a name or a type, behind its first letter.
func isNameByte(b byte) bool { return isSmall(b) || isGreat(b) || isDigit(b) || b == '_' }
