package typing

import (
	"strings"

	"weftway/api"
)

// A second judge. A type is a row of words to it, as `Box ref S`: the kinds, from the outermost on. What an operator asks for is looked up in the chapter's table, written as it stands there, by trying for T whatever there is. It goes on behind a fault, and tells the first one at last.

var kindWords = []string{"none", "int", "bool", "unit", "", "Box", "Cell", "Rc", "Arc", "Mutex", "Atomic", "Sender", "Receiver", "ref", "mut"}

// words is the row of a type that is whole, but for how deep it is.
func words(t api.Type) string {
	if t.Kind == api.TNamed {
		return t.Name
	}
	s := kindWords[t.Kind]
	for _, x := range t.Args {
		s += " " + words(x)
	}
	return s
}

// typeOf is the type of a row.
func typeOf(row string) api.Type {
	word, rest, more := strings.Cut(row, " ")
	for kind, s := range kindWords {
		switch {
		case s == word && more:
			return api.Type{Kind: uint8(kind), Args: []api.Type{typeOf(rest)}}
		case s == word:
			return api.Type{Kind: uint8(kind)}
		}
	}
	return api.Type{Kind: api.TNamed, Name: word}
}

// chapter has what an operator asks for, its Args and then its place, marked by @, and what it gives.
var chapter = map[uint8]string{
	api.EInt: "-> int", api.EBool: "-> bool", api.EUnit: "-> unit",
	api.EUse: "@T -> T", api.EShare: "@T -> ref T", api.EMut: "@T -> mut T",
	api.ENeg: "int -> int", api.ENot: "bool -> bool",
	api.EAdd: "int, int -> int", api.ESub: "int, int -> int", api.EMul: "int, int -> int", api.EDiv: "int, int -> int", api.EMod: "int, int -> int",
	api.ELess: "int, int -> bool", api.EEqual: "int, int -> bool", api.EAnd: "bool, bool -> bool", api.EOr: "bool, bool -> bool",
	api.EBox: "T -> Box T", api.ERc: "T -> Rc T", api.EArc: "T -> Arc T", api.EMutex: "T -> Mutex T",
	api.ECell: "int -> Cell int | bool -> Cell bool | unit -> Cell unit", api.EAtomic: "int -> Atomic",
	api.EUnbox: "Box T -> T", api.EOpen: "Mutex T -> T",
	api.EGet: "@Cell T -> T", api.ESet: "T, @Cell T -> unit",
	api.EClone: "@Rc T -> Rc T | @Arc T -> Arc T | @Sender T -> Sender T | @Receiver T -> Receiver T",
	api.ELoad:  "@Atomic -> int", api.EStore: "int, @Atomic -> unit", api.EFetch: "int, @Atomic -> int",
	api.ESend: "T, @Sender T -> unit", api.ERecv: "@Receiver T -> T",
}

// put is a pattern with that for its T.
func put(pattern, that string) string {
	return strings.TrimSpace(strings.ReplaceAll(" "+strings.ReplaceAll(pattern, "@T", "@ T"), " T", " "+that))
}

// lookUp is what an operator gives for what it is given; nothing, if that isn't what it asks for.
func lookUp(op uint8, given string) string {
	given = strings.ReplaceAll(given, "@", "@ ")
	parts := strings.FieldsFunc(given, func(r rune) bool { return r == ',' || r == '@' })
	for _, row := range strings.Split(chapter[op], " | ") {
		asked, gives, _ := strings.Cut(" "+row, "-> ")
		asked = strings.TrimSpace(strings.ReplaceAll(asked, "@", "@ "))
		if put(asked, "T") == given {
			return gives
		}
		for _, part := range parts {
			for that := strings.TrimSpace(part); that != ""; _, that, _ = strings.Cut(that, " ") {
				if put(asked, that) == given {
					return put(gives, that)
				}
			}
		}
	}
	return ""
}

func isOwned(row string) bool {
	return !strings.Contains(" "+row+" ", " ref ") && !strings.Contains(" "+row+" ", " mut ")
}

func isCopied(row string) bool {
	return row == "int" || row == "bool" || row == "unit" || strings.HasPrefix(row, "ref ")
}

// judge goes through one body; there are others, of spawns, with the same faults.
type judge struct {
	p      api.Program
	vars   map[string]string
	faults *[]api.Fault
	met    func(j judge, e api.Expr) // is handed each expression, if there is one
}

func (j judge) tell(err api.Errno, at int) {
	*j.faults = append(*j.faults, api.Fault{Err: err, At: at})
}

// ask tells ErrType, unless it is so.
func (j judge) ask(so bool, at int) {
	if !so {
		j.tell(api.ErrType, at)
	}
}

// item is the one of that kind and name.
func (j judge) item(kind uint8, name string) api.Item {
	for i := range j.p.Items {
		if x := &j.p.Items[i]; x.Kind == kind && x.Name == name {
			return *x
		}
	}
	return api.Item{}
}

// step is where one leads, and whether it is one through what others have too.
func (j judge) step(row, step string) (to string, shared bool) {
	word, rest, _ := strings.Cut(row, " ")
	switch word {
	case "Box", "mut", "Rc", "Arc", "ref":
		if step != "*" {
			return "", false
		}
		return rest, word != "Box" && word != "mut"
	}
	for _, f := range j.item(api.IStruct, row).Fields {
		if f.Name == step {
			return words(f.Type), false
		}
	}
	return "", false
}

// place is a place's row, and whether it may be written; no row, if it has none.
func (j judge) place(x api.Place) (row string, writable bool) {
	row, writable = j.vars[x.Name], true
	if len(strings.Fields(row)) > 40 {
		return "", false
	}
	for _, step := range x.Path {
		to, shared := j.step(row, step)
		if to == "" {
			return "", false
		}
		row, writable = to, writable && !shared
	}
	return row, writable
}

// rows are those of a field each.
func rowsOf(l []api.Field) string {
	var all []string
	for _, f := range l {
		if f.Type.Kind != 0 {
			all = append(all, words(f.Type))
		}
	}
	return strings.Join(all, ", ")
}

// expr is an expression's row; none, if it has none.
func (j judge) expr(e api.Expr) string {
	if j.met != nil {
		j.met(j, e)
	}
	var given []string
	for _, x := range e.Args {
		given = append(given, j.expr(x))
	}
	args := strings.Join(given, ", ")
	switch e.Op {
	case api.ECall:
		x := j.item(api.IFn, e.Name)
		j.ask(args == rowsOf(x.Fields), e.At)
		return words(x.Result)
	case api.EStruct:
		j.ask(args == rowsOf(j.item(api.IStruct, e.Name).Fields), e.At)
		return e.Name
	case api.EEnum:
		for _, f := range j.item(api.IEnum, e.Name).Fields {
			j.ask(f.Name != e.Second || args == rowsOf([]api.Field{f}), e.At)
		}
		return e.Name
	}
	writable := true
	if e.Place.Name != "" {
		row, may := j.place(e.Place)
		given, writable = append(given, "@"+row), may
	}
	out := lookUp(e.Op, strings.Join(given, ", "))
	_, part, _ := strings.Cut(out, " ")
	switch {
	case out == "" || e.Op == api.EMut && !writable:
		j.tell(api.ErrType, e.At)
	case e.Op == api.EUse && len(e.Place.Path) > 0 && !isCopied(out):
		j.tell(api.ErrMove, e.At)
	case (e.Op == api.EBox || e.Op == api.ERc || e.Op == api.EArc || e.Op == api.EMutex) && !isOwned(part):
		j.tell(api.ErrOwned, e.At)
	}
	return out
}

func (j judge) statement(s api.Stmt) {
	var given []string
	for _, e := range s.Exprs {
		given = append(given, j.expr(e))
	}
	switch s.Op {
	case api.SLet:
		j.vars[s.Name] = given[0]
	case api.STake:
		j.ask(given[0] == s.Name, s.At)
		for i, f := range j.item(api.IStruct, s.Name).Fields {
			j.vars[s.Names[i]] = words(f.Type)
		}
	case api.SAssign:
		row, writable := j.place(s.Place)
		if row != "" && !isOwned(row) {
			j.tell(api.ErrOwned, s.At)
		}
		j.ask(row != "" && row == given[0] && writable, s.At)
	case api.SIf, api.SWhile:
		j.ask(given[0] == "bool", s.At)
	case api.SMatch:
		j.ask(j.vars[s.Name] == s.Second, s.At)
	case api.SSpawn:
		inner := judge{j.p, map[string]string{}, j.faults, j.met}
		for i, name := range s.Names {
			inner.vars[name] = given[i]
		}
		inner.statements(s.Body)
		return
	case api.SLock:
		row, _ := j.place(s.Place)
		part, is := strings.CutPrefix(row, "Mutex ")
		j.ask(is, s.At)
		j.vars[s.Name] = "mut " + part
	case api.SChan:
		j.vars[s.Name], j.vars[s.Second] = "Sender "+words(s.Type), "Receiver "+words(s.Type)
	}
	j.statements(s.Body)
	j.statements(s.Else)
	for _, arm := range s.Arms {
		for _, f := range j.item(api.IEnum, s.Second).Fields {
			if f.Name == arm.Variant && arm.Name != "" {
				j.vars[arm.Name] = words(f.Type)
			}
		}
		j.statements(arm.Body)
	}
}

// No names of a function are alike: none needs to be forgotten.
func (j judge) statements(l []api.Stmt) {
	for _, s := range l {
		j.statement(s)
	}
}

// judgeOf is one with these variables.
func judgeOf(p api.Program, env []api.Field) judge {
	j := judge{p, map[string]string{}, new([]api.Fault), nil}
	for _, f := range env {
		j.vars[f.Name] = words(f.Type)
	}
	return j
}

// judged is what Check answers of a program whose names and tables are right.
func judged(p api.Program) []api.Fault { return judgedWith(p, nil) }

func judgedWith(p api.Program, met func(j judge, e api.Expr)) []api.Fault {
	var all []api.Fault
	for _, x := range p.Items {
		if x.Kind != api.IFn {
			continue
		}
		j := judgeOf(p, x.Fields)
		j.met = met
		j.statements(x.Body)
		j.ask(j.expr(x.Return) == words(x.Result), x.Return.At)
		if len(*j.faults) > 0 {
			all = append(all, (*j.faults)[0])
		}
	}
	return all
}
