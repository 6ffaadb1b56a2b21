package lex

import (
	"maps"
	"slices"
	"testing"
)

// P2.2: the words are those of the chapter, and no other ones.
func TestWordsAreThoseOfTheChapter(t *testing.T) {
	want := allWords()
	slices.Sort(want)
	if got := slices.Sorted(maps.Keys(makeWords())); !slices.Equal(got, want) {
		t.Errorf("%v, want %v", got, want)
	}
}

// A numeral with a side of 0 in front is a number to chapter 1, but no token: its - is one of its own.
func TestKindsOfWholeTexts(t *testing.T) {
	for s, want := range map[string]uint8{"7": TNumber, "-7": none, "-": TSign, "->": TSign, "- ": none, "--": none, "": none, "7a": none, "a": TName, "A": TType, "as": TWord} {
		if got := kindOf(s, isWord(s)); got != want {
			t.Errorf("%q: %d, want %d", s, got, want)
		}
	}
}
