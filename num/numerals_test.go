package num

import (
	"math/big"
	"regexp"
	"strings"
	"testing"

	"weftway/api"
)

// read is what the chapter says of s: a numeral by its form, then its number, if it is one.
func read(s string) (int64, api.Errno) {
	if !regexp.MustCompile(`\A([0-9]+|-[1-9][0-9]*)\z`).MatchString(s) {
		return 0, api.ErrArg
	}
	n, _ := new(big.Int).SetString(s, 10)
	if !n.IsInt64() {
		return 0, api.ErrOver
	}
	return n.Int64(), api.OK
}

func checkParse(t *testing.T, s string, want int64, wantE api.Errno) {
	t.Helper()
	if n, e := Parse(s); n != want || e != wantE {
		t.Errorf("Parse %.60q: %d %d, want %d %d", s, n, e, want, wantE)
	}
}

// The row of the chapter's examples that reads numerals.
func TestExamplesOfNumerals(t *testing.T) {
	checkParse(t, "0042", 42, api.OK)
	checkParse(t, "-7", -7, api.OK)
	checkParse(t, "-07", 0, api.ErrArg)
	checkParse(t, "", 0, api.ErrArg)
	checkParse(t, "4 2", 0, api.ErrArg)
	checkParse(t, "99999999999999999999", 0, api.ErrOver)
}

// P1.3: the ends, and one beyond each; the same with more digits behind.
func TestNumeralsAtTheEnds(t *testing.T) {
	checkParse(t, "9223372036854775806", greatest-1, api.OK)
	checkParse(t, "9223372036854775807", greatest, api.OK)
	checkParse(t, "9223372036854775808", 0, api.ErrOver)
	checkParse(t, "9223372036854775809", 0, api.ErrOver)
	checkParse(t, "9223372036854775810", 0, api.ErrOver)
	checkParse(t, "-9223372036854775807", least+1, api.OK)
	checkParse(t, "-9223372036854775808", least, api.OK)
	checkParse(t, "-9223372036854775809", 0, api.ErrOver)
	checkParse(t, "-9223372036854775810", 0, api.ErrOver)
	checkParse(t, "18446744073709551615", 0, api.ErrOver)
	checkParse(t, "18446744073709551616", 0, api.ErrOver)
	checkParse(t, "18446744073709551623", 0, api.ErrOver)
	checkParse(t, "-18446744073709551616", 0, api.ErrOver)
	checkParse(t, "92233720368547758070", 0, api.ErrOver)
	checkParse(t, "-92233720368547758080", 0, api.ErrOver)
	checkParse(t, "1"+strings.Repeat("0", 100000), 0, api.ErrOver)
	checkParse(t, "-1"+strings.Repeat("0", 100000), 0, api.ErrOver)
}

// P1.3: noughts in front count for nothing, however many; behind a - there are none.
func TestNoughtsInFront(t *testing.T) {
	many := strings.Repeat("0", 100000)
	checkParse(t, "0", 0, api.OK)
	checkParse(t, "00", 0, api.OK)
	checkParse(t, "007", 7, api.OK)
	checkParse(t, many, 0, api.OK)
	checkParse(t, many+"42", 42, api.OK)
	checkParse(t, many+"9223372036854775807", greatest, api.OK)
	checkParse(t, many+"9223372036854775808", 0, api.ErrOver)
	checkParse(t, "-0", 0, api.ErrArg)
	checkParse(t, "-00", 0, api.ErrArg)
	checkParse(t, "-"+many+"42", 0, api.ErrArg)
	checkParse(t, "-09223372036854775809", 0, api.ErrArg)
}

// P1.3, P0.2: no numeral, wherever the byte that is no digit stands, is ErrArg ahead of ErrOver.
func TestNoNumerals(t *testing.T) {
	for _, s := range []string{"-", "--", "--7", "-+7", "+", "+7", "7-", "-7-", "1-2", " ", "7\n", "0x10", "1_000", "1e3", "1.5", "٣", "７", "true"} {
		checkParse(t, s, 0, api.ErrArg)
	}
	digits := []string{"", "7", "9223372036854775807", "99999999999999999999", strings.Repeat("9", 1000)}
	for b := range 256 {
		if '0' <= b && b <= '9' {
			continue
		}
		no := string([]byte{byte(b)})
		for _, d := range digits {
			checkParse(t, d+no, 0, api.ErrArg)
			checkParse(t, d+no+d, 0, api.ErrArg)
			checkParse(t, "-"+d+no, 0, api.ErrArg)
			if b != '-' || d == "" {
				checkParse(t, no+d, 0, api.ErrArg)
			}
		}
	}
}

// P1.3, P0.1: all short texts over some bytes are read as the chapter says.
func TestShortTexts(t *testing.T) {
	texts := []string{""}
	for range 5 {
		var longer []string
		for _, s := range texts {
			checkText(t, s)
			for _, b := range []string{"0", "1", "9", "-", "+", " ", "/", ":", "\x00", "\xff"} {
				longer = append(longer, s+b)
			}
		}
		texts = longer
	}
}

func checkText(t *testing.T, s string) {
	t.Helper()
	want, wantE := read(s)
	checkParse(t, s, want, wantE)
}

// P1.6: one more digit behind a numeral: ten times the number, and the digit, away from 0.
func TestDigitByDigit(t *testing.T) {
	for _, n := range append(edges(), scattered(1000)...) {
		for _, front := range []string{"", "0", "000"} {
			s := front + Print(n)
			if n < 0 {
				s = Print(n)
			}
			for d := range int64(10) {
				away := big.NewInt(d)
				if n < 0 {
					away.Neg(away)
				}
				ten := new(big.Int).Mul(big.NewInt(n), big.NewInt(10))
				want := ten.Add(ten, away)
				if !want.IsInt64() {
					checkParse(t, s+Print(d), 0, api.ErrOver)
					continue
				}
				checkParse(t, s+Print(d), want.Int64(), api.OK)
			}
		}
	}
}

// P1.3: Print, at the ends, at 0 and around it.
func TestPrint(t *testing.T) {
	for _, r := range []struct {
		n    int64
		want string
	}{{0, "0"}, {1, "1"}, {-1, "-1"}, {9, "9"}, {10, "10"}, {-10, "-10"}, {42, "42"}, {greatest, "9223372036854775807"}, {least, "-9223372036854775808"}, {least + 1, "-9223372036854775807"}} {
		if got := Print(r.n); got != r.want {
			t.Errorf("Print %d: %q", r.n, got)
		}
	}
}

// P1.7: a number's own numeral says it, and does so no more with a byte left out; with noughts in front it says it too.
func TestOwnNumerals(t *testing.T) {
	for _, n := range append(edges(), scattered(1000)...) {
		own := Print(n)
		checkParse(t, own, n, api.OK)
		for i := range own {
			if m, e := Parse(own[:i] + own[i+1:]); e == api.OK && m == n {
				t.Errorf("%d: %q is longer than it need be", n, own)
			}
		}
		if n >= 0 {
			checkParse(t, "00"+own, n, api.OK)
		}
	}
}

// P1.7: of all short numerals that say one number its own is the shortest.
func TestOwnNumeralIsTheShortest(t *testing.T) {
	shortest := map[int64]string{}
	texts := []string{""}
	for range 4 {
		var longer []string
		for _, s := range texts {
			for _, b := range "-0123456789" {
				longer = append(longer, s+string(b))
			}
		}
		for _, s := range longer {
			if n, e := Parse(s); e == api.OK && shortest[n] == "" {
				shortest[n] = s
			}
		}
		texts = longer
	}
	if len(shortest) != 10000+999 {
		t.Errorf("%d numbers have numerals of up to four bytes", len(shortest))
	}
	for n, s := range shortest {
		if own := Print(n); own != s {
			t.Errorf("%d: its own numeral is %q, the shortest one %q", n, own, s)
		}
	}
}
