package tree

import (
	"fmt"
	"regexp"
	"strings"

	"weftway/api"
)

// A second judge of trees, to hold the package against: each thing is spelt as one line, and the line of its kind says which ones may be.

const words = " let if else while match scope spawn lock as chan drop fn struct enum true false and or not int bool unit mut box unbox cell get set rc arc clone mutex open atomic load store fetch send recv Box Cell Rc Arc Mutex Atomic Sender Receiver "

// textLetter is n of a name, T of a type's name, * of a star, nothing of nothing, ? of all else.
func textLetter(s string) string {
	switch {
	case s == "" || s == "*":
		return s
	case strings.Contains(words, " "+s+" "):
		return "?"
	case pattern(`[a-z][A-Za-z0-9_]{0,15}`).MatchString(s):
		return "n"
	case pattern(`[A-Z][A-Za-z0-9_]{0,15}`).MatchString(s):
		return "T"
	}
	return "?"
}

func textLetters(l []string) string {
	out := ""
	for _, s := range l {
		if s == "" {
			out += "?"
		}
		out += textLetter(s)
	}
	return out
}

// numberLetter is nothing of 0, 1 of 1, r of the other rooms of a channel, p of what is greater, m of what is below 0.
func numberLetter(n int64) string {
	switch {
	case n < 0:
		return "m"
	case n == 0:
		return ""
	case n == 1:
		return "1"
	case n <= 8:
		return "r"
	}
	return "p"
}

// known has the patterns that were asked for already.
var known = map[string]*regexp.Regexp{}

func pattern(s string) *regexp.Regexp {
	if known[s] == nil {
		known[s] = regexp.MustCompile("^(" + s + ")$")
	}
	return known[s]
}

// may says whether the line of that kind is one of those that the table has: pairs of kinds, with a blank between any two, and a pattern.
func may(table [][2]string, kind, line string) bool {
	for _, row := range table {
		if strings.Contains(" "+row[0]+" ", " "+kind+" ") && pattern(row[1]).MatchString(line) {
			return true
		}
	}
	return false
}

// typeLetter is t of a type that may be, nothing of one that is zero, ? of all others.
func typeLetter(t api.Type) string {
	args := ""
	for _, x := range t.Args {
		args += typeLetter(x) + ","
	}
	line := fmt.Sprint(textLetter(t.Name), "|", args)
	table := [][2]string{{"0 1 2 3 10", `\|`}, {"4", `T\|`}, {"5 6 7 8 9 11 12 13 14", `\|t,`}}
	switch {
	case !may(table, fmt.Sprint(t.Kind), line):
		return "?"
	case t.Kind == 0:
		return ""
	}
	return "t"
}

// placeLetters spells a place that is one as P; else its name and its path.
func placeLetters(x api.Place) string {
	s := textLetter(x.Name) + ":" + textLetters(x.Path)
	if pattern(`n:[n*]{0,40}`).MatchString(s) {
		return "P"
	}
	return s
}

// structLines are the lines of structs' expressions: as many names as arguments.
func structLines() string {
	var out []string
	for n := range 7 {
		out = append(out, fmt.Sprintf(`\|T\|\|:n{%d}\|(e,){%d}`, n, n))
	}
	return strings.Join(out, "|")
}

// exprLetter is e of an expression that may be, l of one that is lent, nothing of one that is zero, ? of all others.
func exprLetter(e api.Expr) string {
	args := ""
	for _, x := range e.Args {
		args += exprLetter(x) + ","
	}
	line := strings.Join([]string{numberLetter(e.Int), textLetter(e.Name), textLetter(e.Second), placeLetters(e.Place), args}, "|")
	table := [][2]string{
		{"1", `[1rp]?\|\|\|:\|`},
		{"2", `1?\|\|\|:\|`},
		{"0 3", `\|\|\|:\|`},
		{"4 5 6 24 28 32 36", `\|\|\|P\|`},
		{"25 33 34 35", `\|\|\|P\|e,`},
		{"7 8 21 22 23 26 27 29 30 31", `\|\|\|:\|e,`},
		{"9 10 11 12 13 14 15 16 17", `\|\|\|:\|e,e,`},
		{"18", `\|n\|\|:\|([el],){0,6}`},
		{"19", structLines()},
		{"20", `\|T\|T\|:\|(e,)?`},
	}
	switch {
	case !may(table, fmt.Sprint(e.Op), line):
		return "?"
	case e.Op == 0:
		return ""
	case e.Op == 5 || e.Op == 6:
		return "l"
	}
	return "e"
}

func exprLetters(l []api.Expr) string {
	out := ""
	for _, e := range l {
		out += exprLetter(e) + ","
	}
	return out
}

// stmtLetters is an s for each statement that may be, a ? for each other.
func stmtLetters(l []api.Stmt) string {
	out := ""
	for _, s := range l {
		out += stmtLetter(s)
	}
	return out
}

func stmtLetter(s api.Stmt) string {
	arms := ""
	for _, a := range s.Arms {
		arms += "(" + textLetter(a.Variant) + ":" + textLetter(a.Name) + ":" + stmtLetters(a.Body) + ")"
	}
	line := strings.Join([]string{
		textLetter(s.Name), textLetter(s.Second), textLetters(s.Names), typeLetter(s.Type), numberLetter(s.Int),
		placeLetters(s.Place), exprLetters(s.Exprs), stmtLetters(s.Body), stmtLetters(s.Else), arms}, " ")
	table := [][2]string{
		{"1", `n     : [el],   `},
		{"2", `T  n{0,6}   : e,   `},
		{"3", `     P e,   `},
		{"4", `     : e,   `},
		{"5", `n     :    `},
		{"6", `     : e, s* s* `},
		{"7", `     : e, s*  `},
		{"8", `n T    :    (\(T:n?:s*\)){0,6}`},
		{"9 13", `     :  s*  `},
		{"11", `n     P  s*  `},
		{"12", `n n  t [1r] :    `},
	}
	for n := range 7 {
		table = append(table, [2]string{"10", fmt.Sprintf(`  n{%d}   : ([el],){%d} s*  `, n, n)})
	}
	if may(table, fmt.Sprint(s.Op), line) {
		return "s"
	}
	return "?"
}

func isItem(x api.Item) bool {
	names := ""
	for _, f := range x.Fields {
		names += textLetter(f.Name) + typeLetter(f.Type) + ","
	}
	line := strings.Join([]string{textLetter(x.Name), names, typeLetter(x.Result), stmtLetters(x.Body), exprLetter(x.Return)}, " ")
	table := [][2]string{{"1", `T (nt,){0,6}   `}, {"2", `T (Tt?,){0,6}   `}, {"3", `n (nt,){0,6} t s* e`}}
	return may(table, fmt.Sprint(x.Kind), line)
}

// Trees in brackets: a type is [..], the program (..), an expression that isn't there <..>, all else {..}.

func typeBrackets(t api.Type) string {
	out := ""
	for _, x := range t.Args {
		out += typeBrackets(x)
	}
	return "[" + out + "]"
}

func exprBrackets(l ...api.Expr) string {
	out := ""
	for _, e := range l {
		out += "{" + exprBrackets(e.Args...) + "}"
	}
	return out
}

func stmtBrackets(l []api.Stmt) string {
	out := ""
	for _, s := range l {
		out += "{"
		if s.Op == 12 {
			out += typeBrackets(s.Type)
		}
		out += exprBrackets(s.Exprs...) + stmtBrackets(s.Body) + stmtBrackets(s.Else)
		for _, a := range s.Arms {
			out += stmtBrackets(a.Body)
		}
		out += "}"
	}
	return out
}

// returnBrackets: a function alone has an expression in its Return.
func returnBrackets(x api.Item) string {
	s := exprBrackets(x.Return)
	if x.Kind != 3 {
		s = strings.NewReplacer("{", "<", "}", ">").Replace(s)
	}
	return s
}

func brackets(p api.Program) string {
	out := ""
	for _, x := range p.Items {
		out += "{"
		for _, f := range x.Fields {
			out += typeBrackets(f.Type)
		}
		out += typeBrackets(x.Result) + stmtBrackets(x.Body) + returnBrackets(x) + "}"
	}
	return "(" + out + ")"
}

// nesting tells how many brackets are open at once at most.
func nesting(s string) int {
	deepest, open := 0, 0
	for _, r := range s {
		if strings.ContainsRune("([{<", r) {
			open++
		} else {
			open--
		}
		deepest = max(deepest, open)
	}
	return deepest
}

func modelDepth(p api.Program) int { return nesting(brackets(p)) }

func modelSize(p api.Program) int { return strings.Count(brackets(p), "{") }

func modelWhole(p api.Program) bool {
	for _, x := range p.Items {
		if !isItem(x) {
			return false
		}
	}
	return len(p.Items) <= 30 && modelDepth(p) <= 40
}

func modelWholeType(t api.Type) bool {
	return typeLetter(t) == "t" && nesting(typeBrackets(t)) <= 40
}

func modelWholeExpr(e api.Expr) bool {
	return exprLetter(e) == "e" && nesting(exprBrackets(e)) <= 40
}
