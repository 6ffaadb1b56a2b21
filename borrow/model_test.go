package borrow

import (
	"maps"
	"slices"
	"strconv"
	"strings"

	"weftway/api"
	"weftway/loans"
	"weftway/paths"
	"weftway/types"
	"weftway/typing"
)

// A second judge. It writes a body down as a row of small deeds, with forks and jumps between them, and then goes every way through the row, with what is set and what is lent on that one way, till it has been everywhere with everything that there is to come with. What is wrong on some way is wrong. Nothing is ever joined.

// deed is one thing that is done.
type deed struct {
	do    func(h here) here
	ask   func(h here) api.Errno // what is wrong, for one who is there
	at    int
	to    []int // where it may go on, if not behind
	moved bool  // it does go elsewhere
}

// here is what holds for one who has come there on some way, as texts: names, and loans, each with a blank behind it.
type here struct{ set, lent string }

func (h here) has(name string) bool { return strings.Contains(" "+h.set, " "+name+" ") }

func sortedWords(l []string) string {
	l = slices.Compact(slices.Sorted(slices.Values(l)))
	if len(l) == 0 {
		return ""
	}
	return strings.Join(l, " ") + " "
}

func (h here) with(names ...string) here {
	return here{sortedWords(append(strings.Fields(h.set), names...)), h.lent}
}

func (h here) without(names ...string) here {
	left := slices.DeleteFunc(strings.Fields(h.set), func(s string) bool { return slices.Contains(names, s) })
	return here{sortedWords(left), h.lent}
}

// loan is a text of one: the place, `:` or `!`, and what ends it.
func (h here) lending(loan string) here {
	return here{h.set, sortedWords(append(strings.Fields(h.lent), loan))}
}

func (h here) ended(ends func(by string) bool) here {
	left := slices.DeleteFunc(strings.Fields(h.lent), func(s string) bool { return ends(s[strings.IndexAny(s, ":!")+1:]) })
	return here{h.set, sortedWords(left)}
}

// mayNot says whether a use is against one of the loans.
func (h here) mayNot(place string, use uint8) bool {
	return slices.ContainsFunc(strings.Fields(h.lent), func(loan string) bool {
		i := strings.IndexAny(loan, ":!")
		lent, used := loan[:i]+".", place+"."
		return (strings.HasPrefix(lent, used) || strings.HasPrefix(used, lent)) && (loan[i] == '!' || use != loans.URead && use != loans.UShare)
	})
}

type judge struct {
	p      api.Program
	env    []api.Field
	depths map[string]int
	deeds  []deed
	depth  int
	scope  int
	calls  int
	bodies []func() ([]api.Fault, bool)
}

func (j *judge) does(do func(h here) here) { j.deeds = append(j.deeds, deed{do: do}) }

func (j *judge) asks(at int, ask func(h here) api.Errno) {
	j.deeds = append(j.deeds, deed{ask: ask, at: at})
}

// goes notes a place from which one may go on elsewhere; it is told later where.
func (j *judge) goes(to ...int) int {
	j.deeds = append(j.deeds, deed{to: to, moved: true})
	return len(j.deeds) - 1
}

func (j *judge) make(name string, t api.Type) {
	j.env, j.depths[name] = append(j.env, api.Field{Name: name, Type: t}), j.depth
}

func (j *judge) use(x api.Place, use uint8, at int) {
	j.asks(at, func(h here) api.Errno {
		switch {
		case !h.has(x.Name):
			return api.ErrUninit
		case h.mayNot(paths.Text(x), use):
			return api.ErrLoan
		}
		return api.OK
	})
}

func (j *judge) lend(x api.Place, op uint8, by string) {
	sign := map[uint8]string{api.EShare: ":", api.EMut: "!"}[op]
	j.does(func(h here) here { return h.lending(paths.Text(x) + sign + by) })
}

func (j *judge) expr(e api.Expr, by string) {
	j.calls++
	call := "call" + strconv.Itoa(j.calls)
	for _, arg := range e.Args {
		j.expr(arg, call)
	}
	switch {
	case e.Op == api.EShare:
		j.use(e.Place, loans.UShare, e.At)
		j.lend(e.Place, e.Op, by)
	case e.Op == api.EMut:
		j.use(e.Place, loans.UAlone, e.At)
		j.lend(e.Place, e.Op, by)
	case e.Op == api.EUse:
		if t, _, _ := typing.Place(j.p, j.env, e.Place); types.Copied(t) {
			j.use(e.Place, loans.URead, e.At)
			return
		}
		j.use(e.Place, loans.UMove, e.At)
		j.does(func(h here) here { return h.without(e.Place.Name) })
	case e.Place.Name != "":
		j.use(e.Place, loans.URead, e.At)
	}
	j.does(func(h here) here { return h.ended(func(by string) bool { return by == call }) })
}

// names are those of the variables that the statements themselves make.
func names(l []api.Stmt) []string {
	var all []string
	for _, s := range l {
		switch s.Op {
		case api.SLet:
			all = append(all, s.Name)
		case api.STake:
			all = append(all, s.Names...)
		case api.SChan:
			all = append(all, s.Name, s.Second)
		}
	}
	return all
}

func (j *judge) block(l []api.Stmt, made ...api.Field) {
	j.depth++
	own := names(l)
	for _, x := range made {
		j.make(x.Name, x.Type)
		own = append(own, x.Name)
		j.does(func(h here) here { return h.with(x.Name) })
	}
	for _, s := range l {
		j.statement(s)
	}
	depth := j.depth
	j.does(func(h here) here {
		return h.without(own...).ended(func(by string) bool {
			till, err := strconv.Atoi(by)
			return err == nil && till >= depth
		})
	})
	j.depth--
}

// ways are blocks of which one is gone.
func (j *judge) ways(blocks ...func()) {
	fork := j.goes()
	var ends []int
	for _, block := range blocks {
		j.deeds[fork].to = append(j.deeds[fork].to, len(j.deeds))
		block()
		ends = append(ends, j.goes())
	}
	for _, end := range ends {
		j.deeds[end].to = []int{len(j.deeds)}
	}
}

func (j *judge) loop(s api.Stmt) {
	top := len(j.deeds)
	j.expr(s.Exprs[0], "")
	fork := j.goes()
	j.block(s.Body)
	j.goes(top)
	j.deeds[fork].to = []int{fork + 1, len(j.deeds)}
}

func (j *judge) types(kind uint8, name string) []api.Field {
	for _, x := range j.p.Items {
		if x.Kind == kind && x.Name == name {
			return x.Fields
		}
	}
	return nil
}

func (j *judge) spawn(s api.Stmt) {
	var params []api.Field
	till := strconv.Itoa(j.scope)
	for i, e := range s.Exprs {
		t, _ := typing.Expr(j.p, j.env, e)
		params = append(params, api.Field{Name: s.Names[i], Type: t})
		if (t.Kind == api.TRef || t.Kind == api.TMut) && j.depths[e.Place.Name] >= j.scope {
			j.asks(e.At, func(here) api.Errno { return api.ErrAlias })
			continue
		}
		j.expr(e, till)
	}
	j.bodies = append(j.bodies, func() ([]api.Fault, bool) { return judgedBody(j.p, params, s.Body, nil) })
}

func (j *judge) statement(s api.Stmt) {
	if s.Op != api.SWhile && s.Op != api.SSpawn {
		for _, e := range s.Exprs {
			j.expr(e, strconv.Itoa(j.depth))
		}
	}
	whole := api.Place{Name: s.Name}
	switch s.Op {
	case api.SLet:
		t, _ := typing.Expr(j.p, j.env, s.Exprs[0])
		j.make(s.Name, t)
	case api.STake:
		for i, f := range j.types(api.IStruct, s.Name) {
			j.make(s.Names[i], f.Type)
		}
	case api.SChan:
		j.make(s.Name, api.Type{Kind: api.TSender, Args: []api.Type{s.Type}})
		j.make(s.Second, api.Type{Kind: api.TReceiver, Args: []api.Type{s.Type}})
	case api.SAssign:
		if len(s.Place.Path) > 0 {
			j.use(s.Place, loans.UWrite, s.At)
			return
		}
		j.asks(s.At, func(h here) api.Errno {
			if h.mayNot(s.Place.Name, loans.UWrite) {
				return api.ErrLoan
			}
			return api.OK
		})
		j.does(func(h here) here { return h.with(s.Place.Name) })
	case api.SDrop:
		j.use(whole, loans.UDrop, s.At)
		j.does(func(h here) here { return h.without(s.Name) })
	case api.SIf:
		j.ways(func() { j.block(s.Body) }, func() { j.block(s.Else) })
	case api.SWhile:
		j.loop(s)
	case api.SMatch:
		j.use(whole, loans.UMove, s.At)
		j.does(func(h here) here { return h.without(s.Name) })
		j.arms(s)
	case api.SScope:
		outer := j.scope
		j.scope = j.depth + 1
		j.block(s.Body)
		j.scope = outer
	case api.SBlock:
		j.block(s.Body)
	case api.SSpawn:
		j.spawn(s)
	case api.SLock:
		t, _, _ := typing.Place(j.p, j.env, s.Place)
		j.use(s.Place, loans.UShare, s.At)
		j.lend(s.Place, api.EShare, strconv.Itoa(j.depth+1))
		j.block(s.Body, api.Field{Name: s.Name, Type: api.Type{Kind: api.TMut, Args: t.Args}})
	}
	made := names([]api.Stmt{s})
	j.does(func(h here) here { return h.with(made...) })
}

func (j *judge) arms(s api.Stmt) {
	var blocks []func()
	for _, arm := range s.Arms {
		var made []api.Field
		for _, f := range j.types(api.IEnum, s.Second) {
			if f.Name == arm.Variant && arm.Name != "" {
				made = append(made, api.Field{Name: arm.Name, Type: f.Type})
			}
		}
		blocks = append(blocks, func() { j.block(arm.Body, made...) })
	}
	if len(blocks) > 0 {
		j.ways(blocks...)
	}
}

// tooMany is how many there may be to go on from, ahead of giving up.
const tooMany = 30000

// goEverywhere tells of each deed what is wrong there on some way; no, if there are too many ways.
func (j *judge) goEverywhere(from here) (map[int]map[api.Errno]bool, bool) {
	type stand struct {
		deed int
		here
	}
	wrong := map[int]map[api.Errno]bool{}
	been := map[stand]bool{}
	open := []stand{{0, from}}
	for len(open) > 0 {
		x := open[len(open)-1]
		open = open[:len(open)-1]
		if x.deed == len(j.deeds) || been[x] {
			continue
		}
		if been[x] = true; len(been) > tooMany {
			return nil, false
		}
		d := j.deeds[x.deed]
		if d.ask != nil {
			if e := d.ask(x.here); e != api.OK {
				if wrong[x.deed] == nil {
					wrong[x.deed] = map[api.Errno]bool{}
				}
				wrong[x.deed][e] = true
			}
		}
		next := x.here
		if d.do != nil {
			next = d.do(next)
		}
		if !d.moved {
			d.to = []int{x.deed + 1}
		}
		for _, to := range d.to {
			open = append(open, stand{to, next})
		}
	}
	return wrong, true
}

// judgeOf has a body's deeds, and what holds ahead of them.
func judgeOf(p api.Program, params []api.Field, l []api.Stmt, last *api.Expr) (j *judge, from here) {
	j = &judge{p: p, depths: map[string]int{}}
	for _, x := range params {
		j.make(x.Name, x.Type)
		from = from.with(x.Name)
	}
	j.depth = 1
	for _, s := range l {
		j.statement(s)
	}
	if last != nil {
		j.expr(*last, "")
	}
	return j, from
}

// judgedBody are the faults of a body, and of those within it; no, if there are too many ways.
func judgedBody(p api.Program, params []api.Field, l []api.Stmt, last *api.Expr) ([]api.Fault, bool) {
	j, from := judgeOf(p, params, l, last)
	wrong, ok := j.goEverywhere(from)
	var faults []api.Fault
	for _, i := range slices.Sorted(maps.Keys(wrong)) {
		// What isn't set on one way may be lent on another one.
		e := api.ErrLoan
		if !wrong[i][e] || wrong[i][api.ErrUninit] {
			e = slices.Min(slices.Collect(maps.Keys(wrong[i])))
		}
		if f := (api.Fault{Err: e, At: j.deeds[i].at}); !slices.Contains(faults, f) {
			faults = append(faults, f)
		}
	}
	for _, body := range j.bodies {
		more, all := body()
		faults, ok = append(faults, more...), ok && all
	}
	return faults, ok
}

// judged is what Check answers of a program that is right so far; no, if there are too many ways.
func judged(p api.Program) ([]api.Fault, bool) {
	var faults []api.Fault
	ok := true
	for _, x := range p.Items {
		if x.Kind == api.IFn {
			more, all := judgedBody(p, x.Fields, x.Body, &x.Return)
			faults, ok = append(faults, more...), ok && all
		}
	}
	return faults, ok
}
