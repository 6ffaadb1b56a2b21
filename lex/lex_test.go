package lex

import (
	"slices"
	"strconv"
	"strings"
	"testing"
	"unsafe"

	"weftway/api"
)

// told writes tokens as the tests expect them: each with its kind and its text, and @ and its place.
func told(tokens []Token) string {
	var out []string
	for _, x := range tokens {
		out = append(out, strconv.Itoa(int(x.Kind))+x.Text+"@"+strconv.Itoa(x.At))
	}
	return strings.Join(out, " ")
}

func checkTokens(t *testing.T, s, want string) {
	t.Helper()
	got, at, e := All(s)
	if told(got) != want || at != 0 || e != api.OK {
		t.Errorf("%.60q: %.200q %d %d, want %.200q", s, told(got), at, e, want)
	}
}

// checkWrong asks for an error, the place beside it, and no tokens.
func checkWrong(t *testing.T, s string, wantAt int, want api.Errno) {
	t.Helper()
	if got, at, e := All(s); got != nil || at != wantAt || e != want {
		t.Errorf("%.60q: %.60v %d %d, want none %d %d", s, got, at, e, wantAt, want)
	}
}

// The rows of the chapter's examples.
func TestExamples(t *testing.T) {
	checkTokens(t, "let a1 = box(Node2); // so", "1let@0 2a1@4 5=@7 1box@9 5(@12 3Node2@13 5)@18 5;@19")
	checkTokens(t, "x.*==-1", "2x@0 5.@1 5*@2 5==@3 5-@5 41@6")
	checkTokens(t, "a->b=>c", "2a@0 5->@1 2b@3 5=>@4 2c@6")
	checkTokens(t, "Box<Box<int>>", "1Box@0 5<@3 1Box@4 5<@7 1int@8 5>@11 5>@12")
	checkTokens(t, "letx", "2letx@0")
	checkTokens(t, "let_", "2let_@0")
	checkTokens(t, "Boxes", "3Boxes@0")
	checkWrong(t, "a$", 1, api.ErrLex)
	checkWrong(t, "_a", 0, api.ErrLex)
	checkWrong(t, "\"", 0, api.ErrLex)
	checkWrong(t, "nnnnnnnnnnnnnnnnn", 0, api.ErrLex)
	checkWrong(t, "9223372036854775808", 0, api.ErrLex)
	checkTokens(t, "12ab", "412@0 2ab@2")
}

// The kinds have the numbers that the chapter gives.
func TestKinds(t *testing.T) {
	if TWord != 1 || TName != 2 || TType != 3 || TNumber != 4 || TSign != 5 {
		t.Error(TWord, TName, TType, TNumber, TSign)
	}
}

// P2.1: each word and each sign is one token; there are 47 and 20 of them.
func TestEachWordAndSign(t *testing.T) {
	for _, w := range allWords() {
		checkTokens(t, w, "1"+w+"@0")
	}
	for _, s := range allSigns() {
		checkTokens(t, s, "5"+s+"@0")
	}
	if len(allWords()) != 47 || len(allSigns()) != 20 {
		t.Error(len(allWords()), len(allSigns()))
	}
}

// P2.1: a word with something of a name behind it is a name or a type, as it begins; with anything else behind it it stays one.
func TestWordsWithSomethingBehind(t *testing.T) {
	for _, w := range allWords() {
		kind := "2"
		if w[0] <= 'Z' {
			kind = "3"
		}
		for _, behind := range []string{"a", "z", "A", "Z", "0", "9", "_", "let", "Box"} {
			checkTokens(t, w+behind, kind+w+behind+"@0")
		}
		end := strconv.Itoa(len(w))
		checkTokens(t, w+"(", "1"+w+"@0 5(@"+end)
		checkTokens(t, w+".", "1"+w+"@0 5.@"+end)
		checkTokens(t, w+"//x", "1"+w+"@0")
		checkWrong(t, w+"$", len(w), api.ErrLex)
		checkTokens(t, "x"+w, "2x"+w+"@0")
		checkTokens(t, "X"+w, "3X"+w+"@0")
		checkTokens(t, "1"+w, "41@0 1"+w+"@1")
		checkWrong(t, "_"+w, 0, api.ErrLex)
	}
}

// P2.1: letters of the other size make no word.
func TestWordsInOtherLetters(t *testing.T) {
	checkTokens(t, "Let LET lET", "3Let@0 3LET@4 2lET@8")
	checkTokens(t, "box Box BOX bOX", "1box@0 1Box@4 3BOX@8 2bOX@12")
	checkTokens(t, "sender Int Unbox receiver", "2sender@0 3Int@7 3Unbox@11 2receiver@17")
}

// P2.1: names and types of 16 bytes are, those of 17 and more are not, and are not taken for two.
func TestLongestNames(t *testing.T) {
	for _, first := range []string{"a", "z", "A", "Z"} {
		kind := "2"
		if first <= "Z" {
			kind = "3"
		}
		for _, rest := range []string{"a", "Z", "0", "_"} {
			whole := first + strings.Repeat(rest, 15)
			checkTokens(t, whole, kind+whole+"@0")
			checkTokens(t, whole+" "+whole, kind+whole+"@0 "+kind+whole+"@17")
			checkTokens(t, whole+".", kind+whole+"@0 5.@16")
			for _, more := range []string{rest, "x", "Y", "7", "_", strings.Repeat(rest, 17), strings.Repeat("q", 3000)} {
				checkWrong(t, whole+more, 0, api.ErrLex)
				checkWrong(t, "let "+whole+more+" = 1;", 4, api.ErrLex)
				checkWrong(t, "12"+whole+more, 2, api.ErrLex)
			}
		}
	}
	checkTokens(t, "letaaaaaaaaaaaaa", "2letaaaaaaaaaaaaa@0")
	checkWrong(t, "letaaaaaaaaaaaaaa", 0, api.ErrLex)
}

// P2.1: as great as may be, one beyond it, noughts in front, digits together.
func TestNumbers(t *testing.T) {
	checkTokens(t, "0", "40@0")
	checkTokens(t, "0042 00", "40042@0 400@5")
	checkTokens(t, "9223372036854775807", "49223372036854775807@0")
	checkWrong(t, "9223372036854775808", 0, api.ErrLex)
	checkWrong(t, "92233720368547758070", 0, api.ErrLex)
	checkWrong(t, "1+ 9223372036854775808", 3, api.ErrLex)
	checkWrong(t, "9223372036854775808abc", 0, api.ErrLex)
	checkTokens(t, "-9223372036854775807", "5-@0 49223372036854775807@1")
	checkWrong(t, "-9223372036854775808", 1, api.ErrLex)
	checkTokens(t, "1.5 -7 +7", "41@0 5.@1 45@2 5-@4 47@5 5+@7 47@8")
	noughts := strings.Repeat("0", 3000)
	checkTokens(t, noughts, "4"+noughts+"@0")
	checkTokens(t, noughts+"9223372036854775807", "4"+noughts+"9223372036854775807@0")
	checkWrong(t, noughts+"9223372036854775808", 0, api.ErrLex)
	checkWrong(t, strings.Repeat("9", 4000), 0, api.ErrLex)
}

// P2.1: letters behind digits begin a token of their own; a _ there is part of nothing.
func TestLettersBehindDigits(t *testing.T) {
	checkTokens(t, "12ab3", "412@0 2ab3@2")
	checkTokens(t, "12Ab", "412@0 3Ab@2")
	checkTokens(t, "12let", "412@0 1let@2")
	checkTokens(t, "0x10", "40@0 2x10@1")
	checkTokens(t, "9223372036854775807a", "49223372036854775807@0 2a@19")
	checkWrong(t, "12_", 2, api.ErrLex)
	checkWrong(t, "1_000", 1, api.ErrLex)
	checkWrong(t, "9223372036854775807_", 19, api.ErrLex)
}

// P2.1: signs of two bytes where both stand; the first or the second alone is what it is alone.
func TestSignsOfTwoBytes(t *testing.T) {
	checkTokens(t, "= = - > = >", "5=@0 5=@2 5-@4 5>@6 5=@8 5>@10")
	checkTokens(t, "===", "5==@0 5=@2")
	checkTokens(t, "====", "5==@0 5==@2")
	checkTokens(t, "==>", "5==@0 5>@2")
	checkTokens(t, "=>=", "5=>@0 5=@2")
	checkTokens(t, "=->", "5=@0 5->@1")
	checkTokens(t, "-->", "5-@0 5->@1")
	checkTokens(t, "->>", "5->@0 5>@2")
	checkTokens(t, "-=", "5-@0 5=@1")
	checkTokens(t, ">=", "5>@0 5=@1")
	checkTokens(t, "<=", "5<@0 5=@1")
	checkTokens(t, "<-", "5<@0 5-@1")
	checkTokens(t, "=a", "5=@0 2a@1")
	checkTokens(t, "a=", "2a@0 5=@1")
	checkTokens(t, "a-", "2a@0 5-@1")
	checkTokens(t, "&&mut", "5&@0 5&@1 1mut@2")
	checkTokens(t, "=//\n=", "5=@0 5=@4")
	checkTokens(t, "-\n>", "5-@0 5>@2")
	checkWrong(t, "=!", 1, api.ErrLex)
	checkWrong(t, "!=", 0, api.ErrLex)
	checkWrong(t, "-$", 1, api.ErrLex)
}

// P2.1: remarks at the end, beside a division, between tokens; what may stand in them.
func TestRemarks(t *testing.T) {
	checkTokens(t, "a//", "2a@0")
	checkTokens(t, "a // b", "2a@0")
	checkTokens(t, "a // b\n", "2a@0")
	checkTokens(t, "a//b\nc", "2a@0 2c@5")
	checkTokens(t, "//\n//\na", "2a@6")
	checkTokens(t, "//\n\n//\r\na", "2a@8")
	checkTokens(t, "a//b\rc\nd", "2a@0 2d@7")
	checkTokens(t, "a/b", "2a@0 5/@1 2b@2")
	checkTokens(t, "a/ /b", "2a@0 5/@1 5/@3 2b@4")
	checkTokens(t, "a/\n/b", "2a@0 5/@1 5/@3 2b@4")
	checkTokens(t, "a///b\nc", "2a@0 2c@6")
	checkTokens(t, "a / // b\n / c", "2a@0 5/@2 5/@10 2c@12")
	checkTokens(t, "a/*b*/c", "2a@0 5/@1 5*@2 2b@3 5*@4 5/@5 2c@6")
	checkTokens(t, "a/", "2a@0 5/@1")
	checkTokens(t, "/", "5/@0")
	for b := range 256 {
		if b != '\n' {
			checkTokens(t, "a//"+string([]byte{byte(b)})+"$b\nc", "2a@0 2c@7")
			checkTokens(t, "a//"+string([]byte{byte(b)}), "2a@0")
		}
	}
	checkWrong(t, "a // b\n$", 7, api.ErrLex)
	checkTokens(t, "a //"+strings.Repeat("k", 100)+strings.Repeat("9", 100), "2a@0")
}

// P2.1: a byte that is no part of anything, at the beginning, in the middle, at the end; the first of several is told.
func TestBytesThatAreNoPart(t *testing.T) {
	parts := " \t\n\r_abcdefghijklmnopqrstuvwxyzABCDEFGHIJKLMNOPQRSTUVWXYZ0123456789(){}<>,;:=&*.+-/%"
	wrong := 0
	for b := range 256 {
		s := string([]byte{byte(b)})
		if strings.Contains(parts, s) {
			continue
		}
		wrong++
		checkWrong(t, s, 0, api.ErrLex)
		checkWrong(t, s+"a", 0, api.ErrLex)
		checkWrong(t, " \n"+s, 2, api.ErrLex)
		checkWrong(t, "a"+s+"b", 1, api.ErrLex)
		checkWrong(t, "let a "+s+" b", 6, api.ErrLex)
		checkWrong(t, "12"+s, 2, api.ErrLex)
		checkWrong(t, "=="+s, 2, api.ErrLex)
		checkWrong(t, "let a = 1; "+s, 11, api.ErrLex)
		checkWrong(t, "a "+s+" "+s, 2, api.ErrLex)
		checkWrong(t, "a //\n"+s, 5, api.ErrLex)
	}
	if wrong != 256-len(parts) {
		t.Error(wrong)
	}
	checkWrong(t, "_", 0, api.ErrLex)
	checkWrong(t, "a _b", 2, api.ErrLex)
	checkWrong(t, "é", 0, api.ErrLex)
	checkWrong(t, "aé", 1, api.ErrLex)
	checkWrong(t, "a\u00a0b", 1, api.ErrLex)
	checkWrong(t, "\ufeffa", 0, api.ErrLex)
	checkWrong(t, "a\vb", 1, api.ErrLex)
	checkWrong(t, "a\fb", 1, api.ErrLex)
}

// P2.1: nothing, and texts of blanks and remarks alone.
func TestNothing(t *testing.T) {
	for _, s := range []string{"", " ", "\t", "\n", "\r", " \t\r\n", "//", "// a $", "// a\n", "\n// a\n// b\n ", strings.Repeat(" ", 4000), "//" + strings.Repeat("$", 3998)} {
		checkTokens(t, s, "")
	}
}

// P2.1: 4000 bytes and 4001, whatever they are.
func TestLongestTexts(t *testing.T) {
	for _, s := range []string{" ", "\n", "$", "9", "k", ",", "/", "\x00"} {
		checkWrong(t, strings.Repeat(s, 4001), 0, api.ErrLong)
		checkWrong(t, strings.Repeat(s, 8000), 0, api.ErrLong)
	}
	checkTokens(t, strings.Repeat(" ", 3999)+"a", "2a@3999")
	checkWrong(t, strings.Repeat(" ", 4000)+"a", 0, api.ErrLong)
	checkWrong(t, "a"+strings.Repeat(" ", 4000), 0, api.ErrLong)
	checkWrong(t, strings.Repeat(" ", 3999)+"$", 3999, api.ErrLex)
	checkWrong(t, strings.Repeat("$", 4000), 0, api.ErrLex)
	checkTokens(t, "a//"+strings.Repeat("$", 3997), "2a@0")
	checkWrong(t, "a//"+strings.Repeat("$", 3998), 0, api.ErrLong)
}

// P2.1, P0.2: 1500 tokens and 1501; what is no token is told ahead of that, wherever it stands.
func TestMostTokens(t *testing.T) {
	for _, s := range []string{",", "a ", "7 ", "==", "A\n"} {
		if got, at, e := All(strings.Repeat(s, 1500)); len(got) != 1500 || at != 0 || e != api.OK {
			t.Errorf("%q: %d %d %d", s, len(got), at, e)
		}
		checkWrong(t, strings.Repeat(s, 1501), 0, api.ErrFull)
		checkWrong(t, strings.Repeat(s, 1900), 0, api.ErrFull)
		checkWrong(t, strings.Repeat(s, 1501)+"$", 1501*len(s), api.ErrLex)
		checkWrong(t, strings.Repeat(s, 1500)+"$", 1500*len(s), api.ErrLex)
		checkWrong(t, "$"+strings.Repeat(s, 1501), 0, api.ErrLex)
	}
	checkTokens(t, strings.Repeat(" ", 3000)+"//"+strings.Repeat(",", 900), "")
	checkWrong(t, strings.Repeat(",", 4000), 0, api.ErrFull)
	checkWrong(t, strings.Repeat(",", 3999)+"_", 3999, api.ErrLex)
	checkWrong(t, strings.Repeat(",", 3000)+strings.Repeat("k", 17), 3000, api.ErrLex)
	checkWrong(t, strings.Repeat(",", 3000)+"9223372036854775808", 3000, api.ErrLex)
}

// samples are texts that have tokens of all kinds.
func samples() []string {
	return []string{
		"let a1 = box(Node2); // so",
		"x.*==-1",
		"fn main() -> int { let r = &mut x.*; lock m as g { g.* = g.* + 007; } 3 }",
		"match x: E { A => {} B(y) => { drop y; } }",
		"12ab 34Cd 56let/7%8",
		"enum List { Nil, Cons(Box<List>) }\n// end\nchan<Sender<int>>(8) as s, r;",
		strings.Join(allWords(), " "),
		strings.Join(allSigns(), " "),
	}
}

// P2.3: tokens stand one behind the other, each where it says, and between them only blanks and remarks.
func TestTokensStandWhereTheySay(t *testing.T) {
	for _, s := range samples() {
		tokens, _, e := All(s)
		if e != api.OK || len(tokens) == 0 {
			t.Fatalf("%q: %d", s, e)
		}
		end := 0
		for _, x := range tokens {
			if x.At < end || !strings.HasPrefix(s[x.At:], x.Text) || x.Text == "" {
				t.Fatalf("%q: %q at %d", s, x.Text, x.At)
			}
			checkTokens(t, s[end:x.At], "")
			end = x.At + len(x.Text)
		}
		checkTokens(t, s[end:], "")
	}
}

// behind is the gap as it must stand behind a token: a remark at a / would begin with that.
func behind(token, gap string) string {
	if token == "/" && gap[0] == '/' {
		return " " + gap
	}
	return gap
}

// P2.3: whatever stands between tokens, and at the ends, they are the same but for their places.
func TestBetweenChangesPlacesAlone(t *testing.T) {
	between := []string{" ", "\t", "\n", "\r", "  ", "\r\n", "//\n", "// $ let 9x\n", " // a // b\n\t", "\n//\n//\n"}
	for _, s := range samples() {
		tokens, _, _ := All(s)
		for _, gap := range between {
			var b strings.Builder
			var want []Token
			b.WriteString(gap)
			for _, x := range tokens {
				x.At = b.Len()
				want = append(want, x)
				b.WriteString(x.Text + behind(x.Text, gap))
			}
			checkTokens(t, b.String(), told(want))
			checkTokens(t, b.String()+"// to the end", told(want))
		}
	}
}

// P0.4: what is answered is not kept, and shares no memory with the text or with another answer.
func TestAnswersAreNewMemory(t *testing.T) {
	for _, s := range samples() {
		first, _, _ := All(s)
		want := slices.Clone(first)
		for _, x := range first {
			if unsafe.StringData(x.Text) == unsafe.StringData(s[x.At:]) {
				t.Errorf("%q at %d lies in the text", x.Text, x.At)
			}
		}
		clear(first[:cap(first)])
		second, _, _ := All(s)
		_ = append(first, Token{Text: "other"})
		if !slices.Equal(second, want) {
			t.Errorf("%q: %v, want %v", s, second, want)
		}
	}
}
