package borrow

import (
	"slices"
	"strconv"
	"strings"
)

// dice throws the same numbers each time.
type dice uint64

func (d *dice) below(n int) int {
	x := *d
	x ^= x << 13
	x ^= x >> 7
	x ^= x << 17
	*d = x
	return int(x>>11) % n
}

func pick[T any](d *dice, list ...T) T { return list[d.below(len(list))] }

// variable is one that is there, with its type's text; the scribe knows roughly whether something stands in it, and whether it is lent.
type variable struct {
	name, row  string
	gone, lent bool
}

// spot is a place that there is.
type spot struct {
	of       *variable
	text     string
	row      string
	writable bool
}

// scribe writes texts of programs that are right so far. If it is tame, it mostly leaves alone what is gone, or lent; else it uses whatever there is.
type scribe struct {
	*dice
	tame   bool
	seen   []*variable
	count  int // of variables of the function
	scoped bool
}

// scribed are the items that each program of the scribe's has.
const scribed = "struct S { a: int, b: Box<int>, c: T } struct T { d: Box<int>, e: int } enum E { A, B(Box<int>), C(int) } enum N { } " +
	"fn eat(a: Box<int>) -> int { unbox(a) } fn peek(a: &Box<int>, b: int) -> int { a.*.* + b } fn poke(a: &mut Box<int>, b: &Box<int>) -> int { a.*.* = b.*.*; 0 } fn make(a: int, b: S) -> Box<int> { box(a + b.a) } fn pair(a: &mut int, b: &mut int) -> bool { a.* == b.* } "

func (m *scribe) program() string {
	var text strings.Builder
	text.WriteString(scribed)
	for i, name := range []string{"f", "main", "g"} {
		if i == 2 && m.below(2) == 0 {
			break
		}
		m.seen, m.count, m.scoped = nil, 0, false
		var params []string
		for range m.below(4) {
			if name == "main" {
				break
			}
			v := m.fresh(pick(m.dice, "Box<int>", "S", "E", "&Box<int>", "&mut Box<int>", "&S", "&mut S", "int"))
			params = append(params, v.name+": "+v.row)
			m.see(v)
		}
		text.WriteString("fn " + name + "(" + strings.Join(params, ", ") + ") -> int { ")
		if m.below(3) == 0 {
			text.WriteString(m.channel())
		}
		for range 3 {
			text.WriteString(m.start(pick(m.dice, "Box<int>", "Box<int>", "S", "E", "Mutex<Box<int>>", "Arc<Mutex<Box<int>>>", "Atomic", "Cell<int>", "int")))
		}
		for range 2 + m.below(6) {
			text.WriteString(m.statement(3))
		}
		text.WriteString(m.expr("int", 2) + " } ")
	}
	return text.String()
}

func (m *scribe) fresh(row string) *variable {
	m.count++
	return &variable{name: "v" + strconv.Itoa(m.count), row: row}
}

func (m *scribe) see(v *variable) { m.seen = append(m.seen, v) }

// isMoved says whether what has that type is moved.
func isMoved(row string) bool {
	return row != "int" && row != "bool" && row != "unit" && (row[0] != '&' || strings.HasPrefix(row, "&mut "))
}

// stepsOf are where the steps from a type lead, and whether what they lead to may be written.
func stepsOf(row string) (to map[string]string, writable bool) {
	inner := func(kind string) (string, bool) {
		part, is := strings.CutPrefix(row, kind)
		return strings.TrimSuffix(part, ">"), is
	}
	if part, is := strings.CutPrefix(row, "&mut "); is {
		return map[string]string{"*": part}, true
	}
	if part, is := strings.CutPrefix(row, "&"); is {
		return map[string]string{"*": part}, false
	}
	if part, is := inner("Box<"); is {
		return map[string]string{"*": part}, true
	}
	if part, is := inner("Arc<"); is {
		return map[string]string{"*": part}, false
	}
	switch row {
	case "S":
		return map[string]string{"a": "int", "b": "Box<int>", "c": "T"}, true
	case "T":
		return map[string]string{"d": "Box<int>", "e": "int"}, true
	}
	return nil, true
}

// spots are those of the variables that may be thought of here.
func (m *scribe) spots(asked func(s spot) bool, free bool) []spot {
	var every, right []spot
	for _, v := range m.seen {
		if m.tame && m.below(40) > 0 && (v.gone || free && v.lent) {
			continue
		}
		every = append(every, spot{v, v.name, v.row, true})
	}
	for i := 0; i < len(every); i++ {
		s := every[i]
		if asked(s) {
			right = append(right, s)
		}
		if strings.Count(s.text, ".") == 3 {
			continue
		}
		to, writable := stepsOf(s.row)
		for _, step := range []string{"*", "a", "b", "c", "d", "e"} {
			if row, there := to[step]; there {
				every = append(every, spot{s.of, s.text + "." + step, row, s.writable && writable})
			}
		}
	}
	return right
}

// spot is one that is as asked for; free ones are not lent, if the scribe is tame.
func (m *scribe) spot(free bool, asked func(s spot) bool) (spot, bool) {
	right := m.spots(asked, free)
	if len(right) == 0 {
		return spot{}, false
	}
	return right[m.below(len(right))], true
}

// used is a place whose value is of that type, if there is one.
func (m *scribe) used(row string) (string, bool) {
	s, ok := m.spot(isMoved(row), func(s spot) bool { return s.row == row && (s.text == s.of.name || !isMoved(row)) })
	if ok && isMoved(row) {
		s.of.gone = true
	}
	return s.text, ok
}

// at is a place of that type.
func (m *scribe) at(row string) (string, bool) {
	s, ok := m.spot(false, func(s spot) bool { return s.row == row })
	return s.text, ok
}

// lent is an expression that lends a place of that type.
func (m *scribe) lent(sign, row string) (string, *variable, bool) {
	s, ok := m.spot(sign == "&mut ", func(s spot) bool {
		return (row == s.row || row == "") && (sign == "&" || s.writable) && strings.Count(s.row, "&") < 2
	})
	return sign + s.text, s.of, ok
}

// arg is an expression of the type of a parameter.
func (m *scribe) arg(row string, levels int) (string, bool) {
	sign, part := "&", strings.TrimPrefix(row, "&")
	if part == row {
		return m.expr(row, levels), true
	}
	if rest, is := strings.CutPrefix(part, "mut "); is {
		sign, part = "&mut ", rest
	}
	if m.below(4) == 0 {
		if text, ok := m.used(row); ok {
			return text, true
		}
	}
	text, _, ok := m.lent(sign, part)
	return text, ok
}

func (m *scribe) call(name string, levels int, rows ...string) (string, bool) {
	var args []string
	for _, row := range rows {
		text, ok := m.arg(row, levels-1)
		if !ok {
			return "", false
		}
		args = append(args, text)
	}
	return name + "(" + strings.Join(args, ", ") + ")", true
}

// expr is an expression of a type that is owned.
func (m *scribe) expr(row string, levels int) string {
	if m.below(3) > 0 {
		if text, ok := m.used(row); ok {
			return text
		}
	}
	if text, ok := m.made(row, levels); ok && levels > 0 {
		return text
	}
	return m.plain(row)
}

// plain is one that needs no variable.
func (m *scribe) plain(row string) string {
	return map[string]string{
		"int": pick(m.dice, "1", "2"), "bool": "1 < 2", "unit": "()", "Box<int>": "box(3)", "S": "S { a = 1, b = box(2), c = T { d = box(3), e = 4 } }", "T": "T { d = box(3), e = 4 }", "E": pick(m.dice, "E.A", "E.C(1)"),
		"Cell<int>": "cell(1)", "Mutex<Box<int>>": "mutex(box(1))", "Atomic": "atomic(1)", "Arc<Mutex<Box<int>>>": "arc(mutex(box(1)))",
	}[row]
}

// made is one that is made of others, if the dice find one.
func (m *scribe) made(row string, levels int) (string, bool) {
	sub := func(row string) string { return m.expr(row, levels-1) }
	place := func(row, ahead, behind string) (string, bool) {
		text, ok := m.at(row)
		return ahead + text + behind, ok
	}
	switch row {
	case "int":
		switch m.below(9) {
		case 0:
			return "(" + sub("int") + " + " + sub("int") + ")", true
		case 1:
			return m.call("eat", levels, "Box<int>")
		case 2, 3:
			return m.call("peek", levels, "&Box<int>", "int")
		case 4, 5:
			return m.call("poke", levels, "&mut Box<int>", "&Box<int>")
		case 6:
			return place("Cell<int>", "get(", ")")
		case 7:
			return place("Atomic", pick(m.dice, "load(", "load(", "load("), ")")
		}
		value := sub("int")
		return place("Atomic", "fetch(", ", "+value+")")
	case "bool":
		if m.below(3) == 0 {
			return m.call("pair", levels, "&mut int", "&mut int")
		}
		return sub("int") + pick(m.dice, " < ", " == ") + sub("int"), true
	case "unit":
		value := sub("int")
		if m.below(2) == 0 {
			return place("Cell<int>", "set(", ", "+value+")")
		}
		value = sub("Box<int>")
		return place("Sender<Box<int>>", "send(", ", "+value+")")
	case "Box<int>":
		switch m.below(4) {
		case 0:
			return place("Receiver<Box<int>>", "recv(", ")")
		case 1:
			return m.call("make", levels, "int", "S")
		}
		return "box(" + sub("int") + ")", true
	case "S":
		first, second := sub("int"), sub("Box<int>")
		return "S { a = " + first + ", b = " + second + ", c = " + sub("T") + " }", true
	case "T":
		first := sub("Box<int>")
		return "T { d = " + first + ", e = " + sub("int") + " }", true
	case "E":
		return "E.B(" + sub("Box<int>") + ")", true
	case "Arc<Mutex<Box<int>>>":
		return place(row, "clone(", ")")
	}
	return "", false
}

// block is one's statements, with a variable that is made for it, or none; behind it nothing is lent by it.
func (m *scribe) block(levels int, made ...*variable) string {
	seen := len(m.seen)
	free := m.free()
	m.seen = append(m.seen, made...)
	text := "{ "
	if levels > 0 {
		for range m.below(4) {
			text += m.statement(levels - 1)
		}
	}
	m.seen = m.seen[:seen:seen]
	for _, v := range free {
		v.lent = false
	}
	return text + "} "
}

// free are the variables that are not lent.
func (m *scribe) free() []*variable {
	return slices.DeleteFunc(slices.Clone(m.seen), func(v *variable) bool { return v.lent })
}

func (m *scribe) statement(levels int) string {
	if m.count > 40 {
		return m.expr("unit", 1) + "; "
	}
	switch m.below(17) {
	case 0, 1, 2:
		return m.borrow()
	case 3, 4:
		return m.start(pick(m.dice, "int", "Box<int>", "Box<int>", "S", "S", "E", "Cell<int>", "Atomic", "Mutex<Box<int>>", "Arc<Mutex<Box<int>>>", "Arc<Mutex<Box<int>>>"))
	case 5, 6, 7:
		return m.assign()
	case 8:
		return m.expr(pick(m.dice, "int", "unit", "unit", "Box<int>", "Arc<Mutex<Box<int>>>"), 3) + "; "
	case 9:
		return m.gone(levels)
	case 10:
		text := "if " + m.expr("bool", 2) + " " + m.block(levels)
		if m.below(2) == 0 {
			text += "else " + m.block(levels)
		}
		return text
	case 11:
		text := m.expr("bool", 2)
		return "while " + text + " " + m.block(levels)
	case 12, 13, 14:
		return m.scope(levels)
	case 15:
		s, ok := m.spot(false, func(s spot) bool { return s.row == "Mutex<Box<int>>" })
		if !ok {
			return ""
		}
		lent := s.of.lent
		s.of.lent = true
		v := m.fresh("&mut Box<int>")
		text := "lock " + s.text + " as " + v.name + " " + m.block(levels, v)
		s.of.lent = lent
		return text
	}
	if m.below(2) == 0 {
		return m.block(levels)
	}
	return m.channel()
}

func (m *scribe) channel() string {
	s, r := m.fresh("Sender<Box<int>>"), m.fresh("Receiver<Box<int>>")
	m.see(s)
	m.see(r)
	return "chan<Box<int>>(1) as " + s.name + ", " + r.name + "; "
}

// start is a let of what is owned.
func (m *scribe) start(row string) string {
	text := m.expr(row, 2)
	v := m.fresh(row)
	m.see(v)
	return "let " + v.name + " = " + text + "; "
}

// borrow is a let of a reference.
func (m *scribe) borrow() string {
	sign := pick(m.dice, "&", "&mut ")
	s, ok := m.spot(sign == "&mut ", func(s spot) bool { return (sign == "&" || s.writable) && strings.Count(s.row, "&") < 2 })
	if !ok {
		return ""
	}
	v := m.fresh(sign + s.row)
	m.see(v)
	s.of.lent = true
	return "let " + v.name + " = " + sign + s.text + "; "
}

func (m *scribe) assign() string {
	tame := m.tame
	m.tame = tame && m.below(3) > 0
	s, ok := m.spot(true, func(s spot) bool { return s.writable && m.plain(s.row) != "" })
	m.tame = tame
	if !ok || tame && s.of.gone && s.text != s.of.name {
		return ""
	}
	text := s.text + " = " + m.expr(s.row, 2) + "; "
	if s.text == s.of.name {
		s.of.gone = false
	}
	return text
}

// gone is a statement that leaves nothing in a variable.
func (m *scribe) gone(levels int) string {
	s, ok := m.spot(true, func(s spot) bool { return s.text == s.of.name && (s.row == "E" || m.below(3) == 0) })
	if !ok {
		return ""
	}
	s.of.gone = true
	if s.row != "E" {
		return "drop " + s.text + "; "
	}
	b, c := m.fresh("Box<int>"), m.fresh("int")
	return "match " + s.text + ": E { B(" + b.name + ") => " + m.block(levels, b) + "C(" + c.name + ") => " + m.block(levels, c) + "A => " + m.block(levels) + "} "
}

// scope is one, or where there is one a spawn.
func (m *scribe) scope(levels int) string {
	if !m.scoped {
		m.scoped = true
		text := "scope " + m.block(levels)
		m.scoped = false
		return text
	}
	var given []string
	var rows []string
	for range m.below(3) {
		switch m.below(3) {
		case 0:
			row := pick(m.dice, "int", "Box<int>", "S", "&Box<int>", "&S", "&mut Box<int>", "&int")
			if text, ok := m.used(row); ok {
				given, rows = append(given, text), append(rows, row)
			}
		case 1:
			given, rows = append(given, m.expr("Box<int>", 2)), append(rows, "Box<int>")
		default:
			sign := pick(m.dice, "&", "&mut ")
			if s, ok := m.spot(sign == "&mut ", func(s spot) bool { return (sign == "&" || s.writable) && strings.Count(s.row, "&") < 2 }); ok {
				s.of.lent = true
				given, rows = append(given, sign+s.text), append(rows, sign+s.row)
			}
		}
	}
	outer := *m
	m.seen, m.count, m.scoped = nil, 0, false
	var params []*variable
	for i, row := range rows {
		params = append(params, m.fresh(row))
		given[i] = params[i].name + " = " + given[i]
	}
	text := "spawn (" + strings.Join(given, ", ") + ") " + m.block(levels, params...)
	m.seen, m.count, m.scoped = outer.seen, outer.count, outer.scoped
	return text
}
