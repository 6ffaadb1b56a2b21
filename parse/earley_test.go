package parse

import (
	"slices"
	"strings"
	"testing"

	"weftway/api"
	"weftway/lex"
	"weftway/show"
)

// grammar is the chapters' one, a row for each thing, with the ways in which it is written behind it; NAME, TYPE and NUMBER are tokens of that kind, what is no thing is a token of that text.
const grammar = `
program = | item program
item = struct TYPE { fields } | enum TYPE { variants } | fn NAME ( fields ) -> type { body }
fields = | field fields+
fields+ = | , field fields+
field = NAME : type
variants = | variant variants+
variants+ = | , variant variants+
variant = TYPE | TYPE ( type )
type = int | bool | unit | Atomic | TYPE | outer < type > | & type | & mut type
outer = Box | Cell | Rc | Arc | Mutex | Sender | Receiver
body = or | statement body
statements = | statement statements
statement = let NAME = may ; | let TYPE { names } = or ; | place = or ; | or ; | drop NAME ; | block | if or block | if or block else block | while or block
statement = scope block | match NAME : TYPE { arms } | spawn ( gives ) block | lock place as NAME block | chan < type > ( NUMBER ) as NAME , NAME ;
block = { statements }
names = | NAME names+
names+ = | , NAME names+
arms = | arm arms
arm = TYPE => block | TYPE ( NAME ) => block
gives = | NAME = may gives+
gives+ = | , NAME = may gives+
may = or | & place | & mut place
place = NAME | place . NAME | place . *
or = and | or or_ and
or_ = or
and = not | and and_ not
and_ = and
not = not_ not | compare
not_ = not
compare = sum | sum < sum | sum == sum
sum = product | sum + product | sum - product
product = minus | product * minus | product / minus | product % minus
minus = - minus | one
one = NUMBER | true | false | ( ) | ( or ) | place | NAME ( args ) | TYPE { sets } | TYPE . TYPE | TYPE . TYPE ( or )
one = ofexpr ( or ) | ofplace ( place ) | ofboth ( place , or )
ofexpr = box | unbox | cell | rc | arc | mutex | open | atomic
ofplace = get | clone | load | recv
ofboth = set | store | fetch | send
args = | may args+
args+ = | , may args+
sets = | NAME = or sets+
sets+ = | , NAME = or sets+
`

// rules are the ways of each thing. The words or, and, not are things, too: or_, and_, not_ are these words.
type rules map[string][][]string

func makeRules() rules {
	g := rules{}
	for line := range strings.Lines(strings.TrimSpace(grammar)) {
		thing, ways, _ := strings.Cut(line, " = ")
		for way := range strings.SplitSeq(ways, "|") {
			g[thing] = append(g[thing], strings.Fields(way))
		}
	}
	for _, word := range []string{"or", "and", "not"} {
		g[word+"_"] = [][]string{{"'" + word}}
	}
	return g
}

// state is how far one way of a thing has been read, that began ahead of the token from.
type state struct {
	thing     string
	way, done int
	from      int
}

// chart is all ways in which the tokens so far can be read, whatever the package does: a set of states ahead of each token, and one behind the last one. A longer row's chart leaves that of the shorter one as it is.
type chart struct {
	rules rules
	sets  [][]state
}

func makeChart() chart {
	c := chart{rules: makeRules()}
	var first []state
	for i := range c.rules["program"] {
		first = append(first, state{"program", i, 0, 0})
	}
	return c.with(first)
}

// with is the chart with one more set: all that follows from those states.
func (c chart) with(set []state) chart {
	at := len(c.sets)
	sets := append(slices.Clip(c.sets), set)
	seen := map[state]bool{}
	for _, s := range set {
		seen[s] = true
	}
	add := func(s state) {
		if !seen[s] {
			seen[s] = true
			sets[at] = append(sets[at], s)
		}
	}
	empty := map[string]bool{}
	for i := 0; i < len(sets[at]); i++ {
		s := sets[at][i]
		next := c.next(s)
		if next == "" {
			empty[s.thing] = empty[s.thing] || s.from == at
			for _, x := range slices.Clone(sets[s.from]) {
				if c.next(x) == s.thing {
					add(state{x.thing, x.way, x.done + 1, x.from})
				}
			}
		}
		for j := range c.rules[next] {
			add(state{next, j, 0, at})
		}
		if empty[next] {
			add(state{s.thing, s.way, s.done + 1, s.from})
		}
	}
	return chart{c.rules, sets}
}

// next is what a state must read next; nothing, if it is done.
func (c chart) next(s state) string {
	if way := c.rules[s.thing][s.way]; s.done < len(way) {
		return way[s.done]
	}
	return ""
}

// push is the chart with a token more, if there is a way to read it.
func (c chart) push(x lex.Token) (chart, bool) {
	var set []state
	for _, s := range c.sets[len(c.sets)-1] {
		if next := c.next(s); c.rules[next] == nil && next != "" && isToken(x, next) {
			set = append(set, state{s.thing, s.way, s.done + 1, s.from})
		}
	}
	if set == nil {
		return c, false
	}
	return c.with(set), true
}

// pushAll is the chart with tokens more, and how many of them it could read.
func (c chart) pushAll(tokens []lex.Token) (chart, int) {
	for i, x := range tokens {
		longer, ok := c.push(x)
		if !ok {
			return c, i
		}
		c = longer
	}
	return c, len(tokens)
}

// ended says whether the tokens are a program's.
func (c chart) ended() bool {
	return slices.ContainsFunc(c.sets[len(c.sets)-1], func(s state) bool {
		return s.thing == "program" && s.from == 0 && c.next(s) == ""
	})
}

func isToken(x lex.Token, next string) bool {
	switch next {
	case "NAME":
		return x.Kind == lex.TName
	case "TYPE":
		return x.Kind == lex.TType
	case "NUMBER":
		return x.Kind == lex.TNumber
	}
	return x.Text == strings.TrimPrefix(next, "'")
}

const vocabulary = "let if else while match scope spawn lock as chan drop fn struct enum true not and or int mut box get set Box Atomic x y S E 0 7 == => -> ( ) { } < > , ; : = & * . + - %"

// judge asks that the text, whose beginning a chart has read, is refused where the grammar says, or not at all; and tells whether it is a program's.
func judge(t *testing.T, read chart, s string) (chart, bool) {
	t.Helper()
	tokens, _, _ := lex.All(s)
	longer, n := read.pushAll(tokens[len(read.sets)-1:])
	n += len(read.sets) - 1
	switch {
	case n < len(tokens):
		refused(t, s, api.ErrText, tokens[n].At)
	case !longer.ended():
		refused(t, s, api.ErrText, len(s))
	default:
		_, l := Program(s)
		if len(l) > 1 || len(l) == 1 && l[0] != (api.Fault{Err: api.ErrFull}) {
			t.Errorf("%q: %v", s, l)
		}
		return longer, true
	}
	return longer, false
}

// P5.1: any two tokens behind any beginning.
func TestShortRows(t *testing.T) {
	words := strings.Fields(vocabulary)
	ahead := []string{
		"", "struct", "struct S {", "struct S { x : int", "enum E { A", "enum E { A (", "fn", "fn f ( x :", "fn f ( ) -> Box <", "fn f ( ) -> & ",
		"{", "{ x", "{ x .", "{ x . * ", "{ f (", "{ f ( &", "{ let", "{ let x", "{ let x =", "{ let S {", "{ let S { x", "{ x =", "{ ( x )", "{ 0", "{ ( )", "{ S", "{ S {", "{ S . E", "{ S . E (", "{ S { x =",
		"{ x <", "{ x < y", "{ x == - y", "{ not", "{ x and not", "{ x +", "{ - x", "{ box", "{ box (", "{ get (", "{ get ( x", "{ set ( x", "{ set ( x ,", "{ true", "{ 0 ;", "{ if x", "{ if x { }", "{ if x { } else", "{ if x { x", "{ while x", "{ match", "{ match x :", "{ match x : E {", "{ match x : E { A", "{ match x : E { A (", "{ match x : E { A => { }",
		"{ scope", "{ spawn", "{ spawn (", "{ spawn ( x =", "{ spawn ( x = y", "{ lock x", "{ lock x as y", "{ chan <", "{ chan < int > (", "{ chan < int > ( 1 ) as x", "{ { }", "{ drop", "{ 0 }",
	}
	right := 0
	start := makeChart()
	for _, s := range ahead {
		if strings.HasPrefix(s, "{") {
			s = "fn f ( ) -> int " + s
		}
		first, _ := judge(t, start, s)
		for _, a := range words {
			second, _ := judge(t, first, s+" "+a)
			for _, b := range words {
				if _, ok := judge(t, second, s+" "+a+" "+b); ok {
					right++
				}
			}
		}
	}
	if right < 40 {
		t.Error("so many were right:", right)
	}
}

// P5.1: programs that were changed in a few tokens.
func TestChangedRows(t *testing.T) {
	start := makeChart()
	d := dice(31)
	right, wrong := 0, 0
	for range 4000 {
		s := show.Program(items(d.item()))
		if len(s) > 600 {
			continue
		}
		row := strings.Fields(s)
		for range 1 + d.below(2) {
			i, word := d.below(len(row)), d.pick(vocabulary)
			switch d.below(5) {
			case 0:
				row = slices.Delete(row, i, i+1)
			case 1:
				row = slices.Insert(row, i, word)
			case 2:
				row[i] = word
			case 3:
				j := d.below(len(row))
				row[i], row[j] = row[j], row[i]
			default:
				row = row[:i+1]
			}
			if len(row) == 0 {
				row = []string{word}
			}
		}
		if _, ok := judge(t, start, strings.Join(row, " ")); ok {
			right++
		} else {
			wrong++
		}
	}
	if right < 100 || wrong < 1000 {
		t.Error(right, wrong)
	}
}
