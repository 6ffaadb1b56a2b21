package lex

import (
	"strings"
	"testing"

	"weftway/api"
)

// checkAlone asks for what s is alone: "w", "n", "t" of a word, a name, a type; "" of none.
func checkAlone(t *testing.T, s, want string) {
	t.Helper()
	got := ""
	if Word(s) {
		got += "w"
	}
	if Name(s) {
		got += "n"
	}
	if Type(s) {
		got += "t"
	}
	if got != want {
		t.Errorf("%.60q: %q, want %q", s, got, want)
	}
}

// P2.2: words, names, types, and their edges.
func TestAlone(t *testing.T) {
	for _, w := range allWords() {
		checkAlone(t, w, "w")
	}
	for _, s := range []string{"a", "z", "a_1B", "letx", "let_", "let1", "boxBox", "lets", "sender", "aLet", "x9", strings.Repeat("n", 16), "z_______________"} {
		checkAlone(t, s, "n")
	}
	for _, s := range []string{"A", "Z", "Node", "A_b", "Boxes", "Box_", "Box1", "LET", "Int", strings.Repeat("N", 16), "Z999999999999999"} {
		checkAlone(t, s, "t")
	}
	for _, s := range []string{"n", "N", "9", "_"} {
		checkAlone(t, "n"+strings.Repeat(s, 16), "")
		checkAlone(t, "N"+strings.Repeat(s, 16), "")
		checkAlone(t, "n"+strings.Repeat(s, 5000), "")
	}
}

// P2.2: two words are none, whichever they are.
func TestTwoWords(t *testing.T) {
	for _, a := range allWords() {
		for _, b := range allWords() {
			checkAlone(t, a+" "+b, "")
		}
	}
}

// P2.2: what is no one token, or one of another kind.
func TestNotAlone(t *testing.T) {
	for _, s := range []string{"", " ", "\n", "//", "_", "_a", "_A", "1", "12", "1a", "1A", "1let", "a b", "A B", "let x", "let let", "a.b", "a.", ".a", "a,b", "a$", "a$b", "$a", "é", "aé", "a\x00", "-a", "=", "=="} {
		checkAlone(t, s, "")
	}
	for _, s := range []string{"let", "Box", "a", "Node"} {
		for _, more := range []string{" ", "\t", "\n", "\r", "//", "// so", ";", "\x00", "-", " b", "\nB"} {
			checkAlone(t, s+more, "")
		}
		for _, more := range []string{" ", "\t", "\n", "\r", "//\n", "(", "\x00", "-", "b ", "7"} {
			checkAlone(t, more+s, "")
		}
	}
	for _, s := range allSigns() {
		checkAlone(t, s, "")
	}
}

// P2.4: what is a word, a name, a type alone is one token of that kind, at 0, and of no other one; and the other way about.
func TestAloneIsOneToken(t *testing.T) {
	texts := append(pieces(), "Other", "a b", "12ab", "letx", strings.Repeat("n", 17), " a", "a ", "")
	for _, s := range texts {
		says := map[uint8]bool{TWord: Word(s), TName: Name(s), TType: Type(s)}
		tokens, _, e := All(s)
		kind := uint8(0)
		if e == api.OK && len(tokens) == 1 && tokens[0].Text == s && tokens[0].At == 0 {
			kind = tokens[0].Kind
		}
		for _, k := range []uint8{TWord, TName, TType} {
			if says[k] != (k == kind) {
				t.Errorf("%q: of the kind %d it says %t, the tokens %v", s, k, says[k], tokens)
			}
		}
	}
}
