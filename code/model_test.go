package code

import (
	"strconv"
	"strings"

	"weftway/api"
)

// opNames are the Ops' names in the order of api's numbers, a `?` ahead of them.
const opNames = "? live dead const use ref mut put drop unary binary struct enum split jump branch switch call return wrap unwrap clone cellget cellset load store fetch chan send recv lock unlock scope spawn join"

// opTable is the chapter's: of each row the Ops, then each field and what may stand there, in the order in which a text tells them.
const opTable = `
live dead | A slot
const | A 1 2 3 | Int const
use ref mut put drop clone cellget cellset load store fetch send recv | A slot | Path
unary | A 7 8
binary | A 9 10 11 12 13 14 15 16 17
struct split | B 0 1 2 3 4 5 6 | Name
enum | A 0 1 2 3 4 5 | B 0 1 | Name
jump branch | A jump
switch | Slots | Name
call spawn | A function | B params
return unlock scope join
wrap | A 6 7 8 9 10 11
unwrap | A 6 10
chan | Int 1 2 3 4 5 6 7 8
lock | A slot | Path | B slot
`

// judge is a second one: it looks each Op up in the table, and reckons with numbers as texts.
type judge struct {
	names []string
	rows  map[string][]string
}

func newJudge() judge {
	j := judge{names: strings.Fields(opNames), rows: map[string][]string{}}
	for _, line := range strings.Split(strings.TrimSpace(opTable), "\n") {
		parts := strings.Split(line, " | ")
		for _, op := range strings.Fields(parts[0]) {
			j.rows[op] = parts[1:]
		}
	}
	return j
}

func (j judge) name(op uint8) string {
	if int(op) < len(j.names) {
		return j.names[op]
	}
	return "?"
}

// asks are a field's words in the table, the field's name the first one; none, if the Op hasn't the field.
func (j judge) asks(op, field string) []string {
	for _, part := range j.rows[op] {
		if words := strings.Fields(part); words[0] == field {
			return words
		}
	}
	return nil
}

// text is what P17.3 says.
func (j judge) text(x api.Instr) string {
	op := j.name(x.Op)
	if op == "?" {
		return "?"
	}
	out := op
	for _, part := range j.rows[op] {
		more := ""
		switch strings.Fields(part)[0] {
		case "A":
			more = strconv.Itoa(x.A)
		case "B":
			more = strconv.Itoa(x.B)
		case "Int":
			more = strconv.FormatInt(x.Int, 10)
		case "Name":
			more = x.Name
		case "Path":
			for _, step := range x.Path {
				more += "." + step
			}
		case "Slots":
			for i, slot := range x.Slots {
				if i > 0 {
					more += ","
				}
				more += strconv.Itoa(slot)
			}
		}
		if more != "" {
			out += " " + more
		}
	}
	return out
}

// may is what P17.2 says.
func (j judge) may(u api.Unit, fn int, x api.Instr) bool {
	op := j.name(x.Op)
	if op == "?" || fn < 0 || fn >= len(u.Funcs) || x.C != 0 || len(x.Names) > 0 {
		return false
	}
	numbers := map[string]string{"A": strconv.Itoa(x.A), "B": strconv.Itoa(x.B), "Int": strconv.FormatInt(x.Int, 10)}
	for field, n := range numbers {
		if !j.number(u, fn, x, j.asks(op, field), n) {
			return false
		}
	}
	return j.path(x, j.asks(op, "Path")) && j.slots(u.Funcs[fn], x, j.asks(op, "Slots")) && j.called(x, j.asks(op, "Name"))
}

func (j judge) number(u api.Unit, fn int, x api.Instr, asks []string, n string) bool {
	if len(asks) == 0 {
		return n == "0"
	}
	f := u.Funcs[fn]
	switch asks[1] {
	case "slot":
		return among(n, f.Slots)
	case "jump":
		return among(n, len(f.Code)+1)
	case "function":
		return among(n, len(u.Funcs))
	case "params":
		return among(strconv.Itoa(x.A), len(u.Funcs)) && n == strconv.Itoa(u.Funcs[x.A].Params)
	case "const":
		return x.A == 1 || n == "0" || x.A == 2 && n == "1"
	}
	for _, word := range asks[1:] {
		if n == word {
			return true
		}
	}
	return false
}

// among says whether a text is one of the first so many numbers from 0 on.
func among(n string, many int) bool {
	for i := range many {
		if strconv.Itoa(i) == n {
			return true
		}
	}
	return false
}

func (j judge) path(x api.Instr, asks []string) bool {
	for _, step := range x.Path {
		if step != "*" && !isCalled(step) {
			return false
		}
	}
	return len(x.Path) == 0 || asks != nil && len(x.Path) <= 40
}

func (j judge) slots(f api.Func, x api.Instr, asks []string) bool {
	for _, to := range x.Slots {
		if !among(strconv.Itoa(to), len(f.Code)+1) {
			return false
		}
	}
	return len(x.Slots) == 0 || asks != nil && len(x.Slots) <= 6
}

func (j judge) called(x api.Instr, asks []string) bool {
	if asks == nil {
		return x.Name == ""
	}
	return isCalled(x.Name)
}

func isCalled(name string) bool { return name != "" && len([]byte(name)) < 17 }
