package cross

import (
	"regexp"
	"slices"
	"strconv"
	"strings"

	"weftway/api"
)

// variable is one that is there, with its type's text.
type variable struct{ name, row string }

// thread is what the scribe has written of a body: what goes into its spawns, by numbers, and their bodies.
type thread struct {
	given  []int
	spawns []*thread
}

// all are the numbers in the order in which they are told.
func (b *thread) all() []int {
	l := append([]int{}, b.given...)
	for _, s := range b.spawns {
		l = append(l, s.all()...)
	}
	return l
}

// given is what goes into a thread.
type given struct {
	row  string
	lent string // `&`, `&mut `
	of   string // what is lent
}

// scribe writes texts of programs that are right so far, and notes what goes into threads; ahead of the token at whose place that is it writes `#` and its number.
type scribe struct {
	*dice
	parts  map[string][]string // the types of structs' fields, enums' payloads
	enums  map[string]bool
	gives  map[string]string // by a type's text the function that gives it
	given  []given
	roots  []*thread
	body   *thread
	seen   []variable
	count  int // of variables of the function
	scoped bool
}

// named are the structs and enums; what one has at once is one behind it.
const named = "PQWEF"

// owned is an owned type that may stand; all the names may be had behind what leads to them.
func (m *scribe) owned(levels int, names string) string {
	if levels == 0 || m.below(3) == 0 {
		if m.below(3) > 0 && names != "" {
			return string(names[m.below(len(names))])
		}
		return pick(m.dice, "int", "int", "bool", "unit", "Atomic", "Cell<int>", "Cell<int>", "Cell<bool>", "Rc<int>")
	}
	return pick(m.dice, "Box", "Box", "Box", "Rc", "Arc", "Arc", "Mutex", "Mutex", "Sender", "Receiver") + "<" + m.owned(levels-1, named) + ">"
}

// reference is a type, a reference mostly.
func (m *scribe) reference(levels int) string {
	if levels == 0 || m.below(4) == 0 {
		return m.owned(2, named)
	}
	return referred(pick(m.dice, "&", "&mut "), m.reference(levels-1))
}

// referred is a reference; two signs without a blank would be read as one.
func referred(sign, row string) string {
	if sign == "&" && row[0] == '&' {
		return "& " + row
	}
	return sign + row
}

func (m *scribe) types() string {
	m.parts, m.enums = map[string][]string{}, map[string]bool{}
	var text strings.Builder
	for i, name := range strings.Split(named, "") {
		m.enums[name] = i > 2
		var fields []string
		for k := range m.below(4) {
			row := m.owned(2, named[i+1:])
			field := string("abc"[k]) + ": " + row
			if m.enums[name] {
				field = string("ABC"[k]) + "(" + row + ")"
			}
			m.parts[name] = append(m.parts[name], row)
			fields = append(fields, field)
		}
		if m.enums[name] {
			text.WriteString("enum " + name + " { " + strings.Join(append(fields, "D"), ", ") + " } ")
		} else {
			text.WriteString("struct " + name + " { " + strings.Join(fields, ", ") + " } ")
		}
	}
	return text.String()
}

// program is a text with numbers in it.
func (m *scribe) program() string {
	m.gives, m.given, m.roots = map[string]string{}, nil, nil
	var text strings.Builder
	text.WriteString(m.types())
	for _, name := range []string{"f", "main", "g"}[:2+m.below(2)] {
		m.seen, m.count, m.scoped, m.body = nil, 0, false, &thread{}
		m.roots = append(m.roots, m.body)
		var params []string
		for range m.below(6) {
			if name != "main" {
				v := m.see(m.reference(2))
				params = append(params, v.name+": "+v.row)
			}
		}
		text.WriteString("fn " + name + "(" + strings.Join(params, ", ") + ") -> int { ")
		if m.below(3) == 0 {
			text.WriteString("let " + m.see("Atomic").name + " = atomic(1); chan<int>(1) as " + m.see("Sender<int>").name + ", " + m.see("Receiver<int>").name + "; ")
		}
		for range 3 + m.below(4) {
			text.WriteString(m.statement(4))
		}
		text.WriteString(m.plain("int", 1) + " } ")
	}
	rows := make([]string, 0, len(m.gives))
	for row := range m.gives {
		rows = append(rows, row)
	}
	slices.Sort(rows)
	for _, row := range rows {
		text.WriteString("fn " + m.gives[row] + "() -> " + row + " { " + m.gives[row] + "() } ")
	}
	return text.String()
}

// unnumbered is the text without numbers, and where each of them stood.
func unnumbered(s string) (string, map[int]int) {
	where := map[int]int{}
	var text strings.Builder
	last := 0
	for _, at := range regexp.MustCompile(`#([0-9]+) `).FindAllStringSubmatchIndex(s, -1) {
		text.WriteString(s[last:at[0]])
		last = at[1]
		n, _ := strconv.Atoi(s[at[2]:at[3]])
		where[n] = text.Len()
	}
	text.WriteString(s[last:])
	return text.String(), where
}

func (m *scribe) see(row string) variable {
	m.count++
	v := variable{"v" + strconv.Itoa(m.count), row}
	m.seen = append(m.seen, v)
	return v
}

// spot is a place that there is.
type spot struct {
	text, row string
	writable  bool
}

// spots are those of the variables, three steps long at most.
func (m *scribe) spots() []spot {
	var every []spot
	for _, v := range m.seen {
		every = append(every, spot{v.name, v.row, true})
	}
	for i := 0; i < len(every); i++ {
		s := every[i]
		if strings.Count(s.text, ".") == 3 {
			continue
		}
		kind, of := parted(s.row)
		switch kind {
		case "Box", "&mut":
			every = append(every, spot{s.text + ".*", strings.TrimSpace(of), s.writable})
		case "Rc", "Arc", "&":
			every = append(every, spot{s.text + ".*", strings.TrimSpace(of), false})
		}
		if m.parts[kind] != nil && !m.enums[kind] {
			for k, row := range m.parts[kind] {
				every = append(every, spot{s.text + "." + string("abc"[k]), row, s.writable})
			}
		}
	}
	return every
}

func (m *scribe) spot(asked func(s spot) bool) (spot, bool) {
	var right []spot
	for _, s := range m.spots() {
		if asked(s) {
			right = append(right, s)
		}
	}
	if len(right) == 0 {
		return spot{}, false
	}
	return right[m.below(len(right))], true
}

// mayBeUsed says whether the place is copied, or a whole variable.
func (s spot) mayBeUsed() bool {
	return s.row == "int" || s.row == "bool" || s.row == "unit" || s.row[0] == '&' && !strings.HasPrefix(s.row, "&mut ") || !strings.Contains(s.text, ".")
}

// lent is a place lent, with what goes into a thread by it.
func (m *scribe) lent() (text string, g given, ok bool) {
	sign := pick(m.dice, "&", "&mut ")
	s, ok := m.spot(func(s spot) bool { return (sign == "&" || s.writable) && strings.Count(s.row, "&") < 3 })
	if !ok {
		return "", given{}, false
	}
	return sign + s.text, given{referred(sign, s.row), sign, s.row}, true
}

// plain is an expression of an owned type.
func (m *scribe) plain(row string, levels int) string {
	ahead, own := m.value(row, levels)
	if ahead != "" {
		return "(" + ahead + own + ")"
	}
	return own
}

// value is an expression of an owned type, in two: its own token is the first one of the second one.
func (m *scribe) value(row string, levels int) (ahead, own string) {
	if m.below(3) > 0 {
		if s, ok := m.spot(func(s spot) bool { return s.row == row && s.mayBeUsed() }); ok {
			return "", s.text
		}
	}
	if levels > 0 {
		if ahead, own = m.made(row, levels-1); own != "" {
			return ahead, own
		}
	}
	if own = map[string]string{"int": "1", "bool": "true", "unit": "()"}[row]; own != "" {
		return "", own
	}
	if m.gives[row] == "" {
		m.gives[row] = "g" + strconv.Itoa(len(m.gives))
	}
	return "", m.gives[row] + "()"
}

// made is one that is made of others; nothing, if the dice find none.
func (m *scribe) made(row string, levels int) (ahead, own string) {
	if m.below(4) == 0 {
		return "", m.taken(row, levels)
	}
	kind, of := parted(row)
	switch kind {
	case "int":
		return m.plain("int", levels) + " ", pick(m.dice, "+ ", "- ", "* ", "/ ", "% ") + m.plain("int", levels)
	case "bool":
		if m.below(2) == 0 {
			return m.plain("bool", levels) + " ", pick(m.dice, "and ", "or ") + m.plain("bool", levels)
		}
		return m.plain("int", levels) + " ", pick(m.dice, "< ", "== ") + m.plain("int", levels)
	case "Box", "Rc", "Arc", "Mutex", "Cell":
		return "", strings.ToLower(kind) + "(" + m.plain(of, levels) + ")"
	case "Atomic":
		return "", "atomic(" + m.plain("int", levels) + ")"
	}
	switch {
	case m.enums[kind]:
		k := m.below(len(m.parts[kind]) + 1)
		if k == len(m.parts[kind]) {
			return "", kind + ".D"
		}
		return "", kind + "." + string("ABC"[k]) + "(" + m.plain(m.parts[kind][k], levels) + ")"
	case strings.Contains(named, kind):
		var fields []string
		for k, row := range m.parts[kind] {
			fields = append(fields, string("abc"[k])+" = "+m.plain(row, levels))
		}
		return "", kind + " { " + strings.Join(fields, ", ") + " }"
	}
	return "", ""
}

// taken is an expression that takes its value out of something; nothing, if there is no place for that.
func (m *scribe) taken(row string, levels int) string {
	at := func(ahead, of, behind string) string {
		s, ok := m.spot(func(s spot) bool { return s.row == of })
		if !ok {
			return ""
		}
		return ahead + s.text + behind
	}
	kind, _ := parted(row)
	switch kind {
	case "int":
		value := m.plain("int", levels)
		return pick(m.dice, "-"+value, at("get(", "Cell<int>", ")"), at("load(", "Atomic", ")"), at("fetch(", "Atomic", ", "+value+")"))
	case "bool":
		return pick(m.dice, "not "+m.plain("bool", levels), at("get(", "Cell<bool>", ")"))
	case "unit":
		value := m.plain("int", levels)
		return pick(m.dice, at("set(", "Cell<int>", ", "+value+")"), at("store(", "Atomic", ", "+value+")"), at("send(", "Sender<int>", ", "+value+")"))
	case "Rc", "Arc", "Sender", "Receiver":
		if m.below(2) == 0 {
			return at("clone(", row, ")")
		}
	}
	return pick(m.dice, "unbox("+m.plain("Box<"+row+">", levels)+")", "open("+m.plain("Mutex<"+row+">", levels)+")", at("recv(", "Receiver<"+row+">", ")"))
}

// block is one's statements, with what is made for it.
func (m *scribe) block(levels int, rows ...string) (text string, made []variable) {
	outer := len(m.seen)
	for _, row := range rows {
		made = append(made, m.see(row))
	}
	text = "{ "
	if levels > 0 {
		for range m.below(4) {
			text += m.statement(levels - 1)
		}
	}
	m.seen = m.seen[:outer:outer]
	return text + "} ", made
}

func (m *scribe) statement(levels int) string {
	if m.count > 35 {
		return m.plain("unit", 1) + "; "
	}
	inner := func() string {
		text, _ := m.block(levels)
		return text
	}
	switch m.below(16) {
	case 0, 1:
		return m.let()
	case 2:
		return m.take()
	case 3:
		return m.match(levels)
	case 4:
		return m.lock(levels)
	case 5:
		return m.channel()
	case 6:
		text := "if " + m.plain("bool", 1) + " " + inner()
		if m.below(2) == 0 {
			text += "else " + inner()
		}
		return text
	case 7:
		return "while " + m.plain("bool", 1) + " " + inner()
	case 8:
		return inner()
	case 9:
		return m.plain(m.owned(1, named), 2) + "; "
	}
	if m.scoped && m.below(4) > 0 {
		return m.spawn(levels)
	}
	outer := m.scoped
	m.scoped = true
	text := "scope " + inner()
	m.scoped = outer
	return text
}

func (m *scribe) let() string {
	if m.below(2) == 0 {
		if text, g, ok := m.lent(); ok {
			return "let " + m.see(g.row).name + " = " + text + "; "
		}
	}
	if m.below(2) == 0 {
		if s, ok := m.spot(spot.mayBeUsed); ok {
			return "let " + m.see(s.row).name + " = " + s.text + "; "
		}
	}
	row := m.owned(2, named)
	text := m.plain(row, 2)
	return "let " + m.see(row).name + " = " + text + "; "
}

func (m *scribe) take() string {
	row := string(named[m.below(3)])
	text := m.plain(row, 1)
	var names []string
	for _, part := range m.parts[row] {
		names = append(names, m.see(part).name)
	}
	return "let " + row + " { " + strings.Join(names, ", ") + " } = " + text + "; "
}

func (m *scribe) match(levels int) string {
	s, ok := m.spot(func(s spot) bool { return m.enums[s.row] && !strings.Contains(s.text, ".") })
	if !ok {
		row := pick(m.dice, "E", "F")
		text := m.plain(row, 1)
		return "let " + m.see(row).name + " = " + text + "; "
	}
	arms := []int{0, 1, 2, 3}[:len(m.parts[s.row])+1]
	for i := range arms {
		k := m.below(i + 1)
		arms[i], arms[k] = arms[k], arms[i]
	}
	var text strings.Builder
	for _, k := range arms {
		if k == len(m.parts[s.row]) {
			block, _ := m.block(levels)
			text.WriteString("D => " + block)
			continue
		}
		block, made := m.block(levels, m.parts[s.row][k])
		text.WriteString(string("ABC"[k]) + "(" + made[0].name + ") => " + block)
	}
	return "match " + s.text + ": " + s.row + " { " + text.String() + "} "
}

func (m *scribe) lock(levels int) string {
	s, ok := m.spot(func(s spot) bool { return strings.HasPrefix(s.row, "Mutex<") })
	if !ok {
		return m.let()
	}
	_, of := parted(s.row)
	text, made := m.block(levels, "&mut "+of)
	return "lock " + s.text + " as " + made[0].name + " " + text
}

func (m *scribe) channel() string {
	row := m.owned(2, named)
	return "chan<" + row + ">(1) as " + m.see("Sender<"+row+">").name + ", " + m.see("Receiver<"+row+">").name + "; "
}

// spawn is one; its body is a function of its own.
func (m *scribe) spawn(levels int) string {
	var list, rows []string
	for range m.below(5) {
		ahead, own, g := m.handed()
		m.body.given = append(m.body.given, len(m.given))
		list, rows = append(list, ahead+"#"+strconv.Itoa(len(m.given))+" "+own), append(rows, g.row)
		m.given = append(m.given, g)
	}
	outer := *m
	m.seen, m.count, m.scoped, m.body = nil, m.below(3), false, &thread{}
	text, made := m.block(levels, rows...)
	outer.body.spawns = append(outer.body.spawns, m.body)
	m.seen, m.count, m.scoped, m.body = outer.seen, outer.count, outer.scoped, outer.body
	for i, v := range made {
		list[i] = v.name + " = " + list[i]
	}
	return "spawn (" + strings.Join(list, ", ") + ") " + text
}

// handed is an expression of a list, in two, as value is.
func (m *scribe) handed() (ahead, own string, g given) {
	switch m.below(3) {
	case 0:
		if text, g, ok := m.lent(); ok {
			return "", text, g
		}
	case 1:
		if s, ok := m.spot(spot.mayBeUsed); ok {
			return "", s.text, given{row: s.row}
		}
	}
	row := pick(m.dice, m.owned(2, named), m.owned(2, named), "int", "unit")
	ahead, own = m.value(row, 2)
	return ahead, own, given{row: row}
}

// want is what is told of a text: its crossings, in order, as numbers; the faults.
func (m *scribe) want(where map[int]int) (numbers []int, faults []api.Fault) {
	f := factsOf(m.parts)
	for _, root := range m.roots {
		numbers = append(numbers, root.all()...)
	}
	for _, n := range numbers {
		if !f.isSend(m.given[n].row) {
			faults = append(faults, api.Fault{Err: api.ErrSend, At: where[n]})
		}
	}
	return numbers, faults
}
