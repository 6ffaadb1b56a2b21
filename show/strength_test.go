package show

import (
	"slices"
	"strings"
	"testing"

	"weftway/api"
	"weftway/tree"
)

// signOps are the kinds of expressions with a sign or not, of one side and of two.
func signOps() (one, two []uint8) {
	return []uint8{api.ENeg, api.ENot}, []uint8{api.EAdd, api.ESub, api.EMul, api.EDiv, api.EMod, api.ELess, api.EEqual, api.EAnd, api.EOr}
}

// grown is each of these alone, and each kind with a sign made of them.
func grown(l []api.Expr) []api.Expr {
	one, two := signOps()
	out := slices.Clone(l)
	for _, x := range l {
		for _, op := range one {
			out = append(out, ex(op, x))
		}
		for _, y := range l {
			for _, op := range two {
				out = append(out, ex(op, x, y))
			}
		}
	}
	return out
}

// without are the texts that come of it when one pair of parentheses around an expression is left out; those of a call, or of nothing, aren't such.
func without(s string) []string {
	var out []string
	var open []int
	tokens := strings.Split(s, " ")
	for i, x := range tokens {
		switch x {
		case "(":
			open = append(open, i)
		case ")":
			from := open[len(open)-1]
			open = open[:len(open)-1]
			if !opensList(tokens, from) && i > from+1 {
				out = append(out, strings.Join(slices.Concat(tokens[:from], tokens[from+1:i], tokens[i+1:]), " "))
			}
		}
	}
	return out
}

// opensList says whether the parenthesis belongs to what stands ahead of it.
func opensList(tokens []string, at int) bool {
	if at == 0 {
		return false
	}
	ahead := tokens[at-1]
	if strings.Contains(" if while and or not true false ", " "+ahead+" ") {
		return false
	}
	return strings.ContainsAny(ahead[:1], "abcdefghijklmnopqrstuvwxyzABCDEFGHIJKLMNOPQRSTUVWXYZ") || ahead == ">"
}

// checkReadBack asks that the text says this expression, and doesn't without any of its parentheses.
func checkReadBack(t *testing.T, e api.Expr) {
	t.Helper()
	s := Expr(e)
	if got, ok := readExpr(s); !ok || !tree.SameExpr(got, e) {
		t.Errorf("%.300q is read as %.300q, %v", s, Expr(got), ok)
	}
	for _, less := range without(s) {
		if got, ok := readExpr(less); ok && tree.SameExpr(got, e) {
			t.Errorf("%.300q: as good is %.300q", s, less)
		}
	}
}

// P4.2, P4.3: each sign beside each other one, two deep, and some of three.
func TestSigns(t *testing.T) {
	two := grown(grown([]api.Expr{use("a")}))
	for _, e := range two {
		checkReadBack(t, e)
	}
	three := grown([]api.Expr{use("a"), number(1)})
	ones, twos := signOps()
	for i, e := range two {
		with := three[i%len(three)]
		checkReadBack(t, ex(ones[i%2], e))
		checkReadBack(t, ex(twos[i%9], e, with))
		checkReadBack(t, ex(twos[i%9], with, e))
	}
}

// held is an expression for each sort of what stands beside a sign: its text, and how far on it stands in the chapter's row of strengths.
type held struct {
	e     api.Expr
	text  string
	place int
}

func heldExprs() []held {
	out := []held{{use("a"), "a", 7}, {ex(api.EBox, use("a")), "box ( a )", 7}, {ex(api.EUnit), "( )", 7}, {number(1), "1", 7}, {variant("E", "A"), "E . A", 7}}
	for place, signsHere := range []string{"or", "and", "", "< ==", "+ -", "* / %"} {
		for _, sign := range strings.Fields(signsHere) {
			out = append(out, held{ex(signs()[sign], use("a"), use("a")), "a " + sign + " a", place})
		}
	}
	return append(out, held{ex(api.ENot, use("a")), "not a", 2}, held{ex(api.ENeg, use("a")), "- a", 6})
}

func (h held) in(parentheses bool) string {
	if parentheses {
		return "( " + h.text + " )"
	}
	return h.text
}

// P4.2: each sign beside each other one, held against the places in the chapter's row of strengths.
func TestStrengths(t *testing.T) {
	one, two := signOps()
	for _, outer := range heldExprs() {
		tokens := strings.Fields(outer.text)
		for _, inner := range heldExprs() {
			switch {
			case slices.Contains(one, outer.e.Op):
				checkExpr(t, ex(outer.e.Op, inner.e), tokens[0]+" "+inner.in(inner.place < outer.place))
			case slices.Contains(two, outer.e.Op):
				isCompared := outer.place == 3 && inner.place == 3
				checkExpr(t, ex(outer.e.Op, inner.e, use("a")), inner.in(inner.place < outer.place || isCompared)+" "+tokens[1]+" a")
				checkExpr(t, ex(outer.e.Op, use("a"), inner.e), "a "+tokens[1]+" "+inner.in(inner.place <= outer.place))
			}
		}
	}
}

// P4.2: nothing else stands in parentheses, however weak it is.
func TestNoOtherParentheses(t *testing.T) {
	weak := ex(api.EOr, use("a"), use("b"))
	checkExpr(t, call("f", weak, weak), "f ( a or b , a or b )")
	checkExpr(t, made("S", "p q", weak, weak), "S { p = a or b , q = a or b }")
	checkExpr(t, variant("E", "A", weak), "E . A ( a or b )")
	checkExpr(t, at(api.ESend, "x", weak), "send ( x , a or b )")
	checkExpr(t, ex(api.EBox, weak), "box ( a or b )")
	checkExpr(t, ex(api.EMul, ex(api.EBox, weak), call("f", weak)), "box ( a or b ) * f ( a or b )")
	checkStmt(t, do(weak), "a or b ;")
	checkStmt(t, let("x", weak), "let x = a or b ;")
	checkStmt(t, assign("x", weak), "x = a or b ;")
	checkStmt(t, choose(weak, nil, nil), "if a or b { }")
	checkStmt(t, while(weak), "while a or b { }")
	checkStmt(t, spawn("x", []api.Expr{weak}), "spawn ( x = a or b ) { }")
	checkProgram(t, items(function("f", nil, mk(api.TInt), weak)), "fn f ( ) -> int { a or b }\n")
}
