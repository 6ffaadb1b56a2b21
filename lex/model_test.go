package lex

import (
	"math/big"
	"regexp"
	"slices"
	"strings"
	"testing"

	"weftway/api"
)

// allWords are the words, as the chapter lists them.
func allWords() []string {
	return []string{
		"let", "if", "else", "while", "match", "scope", "spawn", "lock", "as", "chan", "drop", "fn", "struct", "enum",
		"true", "false", "and", "or", "not", "int", "bool", "unit", "mut",
		"box", "unbox", "cell", "get", "set", "rc", "arc", "clone", "mutex", "open", "atomic", "load", "store", "fetch", "send", "recv",
		"Box", "Cell", "Rc", "Arc", "Mutex", "Atomic", "Sender", "Receiver",
	}
}

// allSigns are the signs, as the chapter lists them.
func allSigns() []string {
	return []string{"==", "=>", "->", "(", ")", "{", "}", "<", ">", ",", ";", ":", "=", "&", "*", ".", "+", "-", "/", "%"}
}

// model reads texts by forms alone, so that it shares nothing with the package but the chapter.
type model struct {
	between, name, digits, sign *regexp.Regexp
	words                       []string
}

func newModel() model {
	return model{
		between: regexp.MustCompile(`\A(?:[ \t\r\n]|//[^\n]*)+`),
		name:    regexp.MustCompile(`\A[A-Za-z][A-Za-z0-9_]*`),
		digits:  regexp.MustCompile(`\A[0-9]+`),
		sign:    regexp.MustCompile(`\A(?:==|=>|->|[(){}<>,;:=&*.+/%-])`),
		words:   allWords(),
	}
}

func (m model) all(s string) ([]Token, int, api.Errno) {
	if len(s) > 4000 {
		return nil, 0, api.ErrLong
	}
	var out []Token
	for at := 0; at < len(s); {
		rest := s[at:]
		if b := m.between.FindString(rest); b != "" {
			at += len(b)
			continue
		}
		t := m.token(rest)
		if t.Kind == 0 {
			return nil, at, api.ErrLex
		}
		t.At = at
		out = append(out, t)
		at += len(t.Text)
	}
	if len(out) > 1500 {
		return nil, 0, api.ErrFull
	}
	return out, 0, api.OK
}

// token is the one at the beginning of s: its kind is 0, if there is none.
func (m model) token(s string) Token {
	if x := m.name.FindString(s); x != "" {
		switch {
		case slices.Contains(m.words, x):
			return Token{Kind: 1, Text: x}
		case len(x) > 16:
			return Token{}
		case x[0] >= 'a':
			return Token{Kind: 2, Text: x}
		}
		return Token{Kind: 3, Text: x}
	}
	if x := m.digits.FindString(s); x != "" {
		if n, ok := new(big.Int).SetString(x, 10); !ok || !n.IsInt64() {
			return Token{}
		}
		return Token{Kind: 4, Text: x}
	}
	if x := m.sign.FindString(s); x != "" {
		return Token{Kind: 5, Text: x}
	}
	return Token{}
}

// alone is what Word, Name, Type must say of s: the kind of the one token that all of it is, else 0.
func (m model) alone(s string) uint8 {
	if t := m.token(s); t.Text == s {
		return t.Kind
	}
	return 0
}

func (m model) check(t *testing.T, s string) {
	t.Helper()
	want, wantAt, wantE := m.all(s)
	got, at, e := All(s)
	if !slices.Equal(got, want) || at != wantAt || e != wantE {
		t.Errorf("%.60q: %.200v %d %d, want %.200v %d %d", s, got, at, e, want, wantAt, wantE)
	}
	kind := m.alone(s)
	if w, n, y := Word(s), Name(s), Type(s); w != (kind == 1) || n != (kind == 2) || y != (kind == 3) {
		t.Errorf("%.60q: word %t, name %t, type %t, want the kind %d", s, w, n, y, kind)
	}
}

// P2.1, P2.2, P0.1, P0.2: all texts of up to four bytes over some that stand for all kinds.
func TestShortTextsAreAsTheModelSays(t *testing.T) {
	m := newModel()
	texts := []string{""}
	for range 5 {
		var longer []string
		for _, s := range texts {
			m.check(t, s)
			for _, b := range []byte("as=>-/ \n\r09_AZ.$\x00\xc3") {
				longer = append(longer, s+string([]byte{b}))
			}
		}
		texts = longer
	}
}

// P2.1, P2.2, P0.1: any two bytes.
func TestPairsOfBytesAreAsTheModelSays(t *testing.T) {
	m := newModel()
	for a := range 256 {
		for b := range 256 {
			m.check(t, string([]byte{byte(a), byte(b)}))
		}
	}
}

// scatter answers numbers below n, the same ones each time.
func scatter() func(n int) int {
	x := uint64(88172645463325252)
	return func(n int) int {
		x ^= x << 13
		x ^= x >> 7
		x ^= x << 17
		return int((x >> 1) % uint64(n))
	}
}

// pieces are texts of which longer ones are put together: tokens, what looks like them, what stands between.
func pieces() []string {
	out := append(allWords(), allSigns()...)
	out = append(out, " ", "\t", "\r", "\n", "//", "// so\n", "///\n", "a", "z9", "B_", "Node2", "0", "42", "007", "9223372036854775807", "_", "_1")
	return append(out, strings.Repeat("k", 16), strings.Repeat("K", 15))
}

// P2.1, P0.1: longer texts, of pieces with and without what is no token among them.
func TestLongTextsAreAsTheModelSays(t *testing.T) {
	m := newModel()
	next := scatter()
	good := pieces()
	wrong := append(pieces(), "$", "\"", "!", "\x00", "é", "\xff", strings.Repeat("k", 17), "9223372036854775808")
	seen := map[api.Errno]int{}
	for i := range 4000 {
		from := good
		if i%2 == 1 {
			from = wrong
		}
		var b strings.Builder
		for range next(1 + i%700) {
			b.WriteString(from[next(len(from))])
			if next(3) > 0 {
				b.WriteByte(' ')
			}
		}
		_, _, e := m.all(b.String())
		seen[e]++
		m.check(t, b.String())
	}
	if seen[api.OK] < 100 || seen[api.ErrLex] < 100 {
		t.Errorf("too few of a sort: %v", seen)
	}
}

// P2.1: any bytes at all.
func TestAnyBytesAreAsTheModelSays(t *testing.T) {
	m := newModel()
	next := scatter()
	for i := range 4000 {
		b := make([]byte, next(1+i%200))
		for j := range b {
			b[j] = byte(next(256))
		}
		m.check(t, string(b))
	}
}
