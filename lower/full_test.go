package lower

import (
	"slices"
	"strings"
	"testing"

	"weftway/api"
	"weftway/code"
	"weftway/names"
)

// wide is a program whose main has all these statements; a text would be too long for parse.
func wide(parts ...[]api.Stmt) api.Program {
	var body []api.Stmt
	for _, l := range parts {
		body = append(body, l...)
	}
	return api.Program{Items: []api.Item{{Kind: api.IFn, Name: "main", Result: api.Type{Kind: api.TInt}, Body: body, Return: number()}}}
}

func number() api.Expr { return api.Expr{Op: api.EInt} }

func times(n int, s api.Stmt) []api.Stmt { return slices.Repeat([]api.Stmt{s}, n) }

// inScope are statements in a scope's block.
func inScope(l ...api.Stmt) []api.Stmt { return []api.Stmt{{Op: api.SScope, Body: l}} }

// lets are so many variables.
func lets(n int) []api.Stmt {
	var l []api.Stmt
	for i := range n {
		l = append(l, api.Stmt{Op: api.SLet, Name: "v" + string(rune('a'+i/26)) + string(rune('a'+i%26)), Exprs: []api.Expr{number()}})
	}
	return l
}

var (
	dropped  = api.Stmt{Op: api.SDrop, Name: "vaa"}                                                        // one instruction
	assigned = api.Stmt{Op: api.SAssign, Place: api.Place{Name: "vaa"}, Exprs: []api.Expr{{Op: api.EInt}}} // three
	done     = api.Stmt{Op: api.SDo, Exprs: []api.Expr{{Op: api.EInt}}}                                    // a slot
	spawned  = api.Stmt{Op: api.SSpawn}                                                                    // a function
	handed   = api.Stmt{Op: api.SSpawn, Names: []string{"a"}, Exprs: []api.Expr{{Op: api.EUse, Place: api.Place{Name: "vaa"}}}}
)

// full asks whether a program's unit may be; its names are right.
func full(t *testing.T, what string, p api.Program, want api.Errno) {
	t.Helper()
	if faults := names.Check(p); len(faults) > 0 {
		t.Fatal(what, faults)
	}
	u, e := Program(p)
	if e != want {
		t.Errorf("%s: %v, want %v", what, e, want)
	}
	if e == api.OK && code.May(u) != api.OK {
		t.Errorf("%s may not be", what)
	}
	if e != api.OK {
		refused(t, p, want)
	}
}

// P18.1: ErrFull, if a function's code is longer than it may be.
func TestFullCode(t *testing.T) {
	const own = 6 // of main, for its variable and its end
	most := (api.MaxCode - own) / 3
	rest := (api.MaxCode - own) % 3
	full(t, "most", wide(lets(1), times(most, assigned), times(rest, dropped)), api.OK)
	full(t, "one more", wide(lets(1), times(most, assigned), times(rest+1, dropped)), api.ErrFull)
	full(t, "three more", wide(lets(1), times(most+1, assigned), times(rest, dropped)), api.ErrFull)
	p := wide(lets(1), times(most, assigned), times(rest, dropped))
	if u, _ := Program(p); len(u.Funcs) != 1 || len(u.Funcs[0].Code) != api.MaxCode {
		t.Error("not the most")
	}
	// In a spawn's body, and in another function.
	body := wide(lets(1), times(most, assigned), times(rest, dropped)).Items[0].Body
	thread := api.Stmt{Op: api.SSpawn, Body: body}
	full(t, "thread", wide(inScope(thread)), api.OK)
	thread.Body = append(slices.Clone(body), dropped)
	full(t, "thread with one more", wide(inScope(thread)), api.ErrFull)
	p = wide()
	other := p.Items[0]
	other.Name, other.Body = "f", thread.Body
	p.Items = append(p.Items, other)
	full(t, "another function", p, api.ErrFull)
}

// P18.1: ErrFull, if a function has more slots than it may; what a statement of an expression alone takes is one, too.
func TestFullSlots(t *testing.T) {
	full(t, "variables", wide(lets(api.MaxVars)), api.OK)
	full(t, "values", wide(times(api.MaxVars, done)), api.OK)
	full(t, "values and one more", wide(times(api.MaxVars+1, done)), api.ErrFull)
	full(t, "both", wide(lets(20), times(api.MaxVars-20, done)), api.OK)
	full(t, "both and one more", wide(lets(20), times(api.MaxVars-19, done)), api.ErrFull)
	full(t, "both and a variable more", wide(times(api.MaxVars-20, done), lets(21)), api.ErrFull)
	full(t, "variables and a value", wide(lets(api.MaxVars), times(1, done)), api.ErrFull)
	thread := api.Stmt{Op: api.SSpawn, Names: []string{"a"}, Exprs: []api.Expr{number()}, Body: times(api.MaxVars-1, done)}
	full(t, "thread", wide(times(3, done), inScope(thread, thread), times(api.MaxVars-3, done)), api.OK)
	thread.Body = append(thread.Body, done)
	full(t, "thread with one more", wide(inScope(thread)), api.ErrFull)
}

// P18.1: ErrFull, if there are more functions than there may be, those of spawns with them.
func TestFullFuncs(t *testing.T) {
	full(t, "most", wide(inScope(times(199, spawned)...)), api.OK)
	full(t, "one more", wide(inScope(times(200, spawned)...)), api.ErrFull)
	full(t, "handed", wide(lets(1), inScope(times(199, handed)...)), api.OK)
	inner := api.Stmt{Op: api.SSpawn, Body: inScope(times(3, spawned)...)}
	full(t, "within", wide(inScope(times(49, inner)...), inScope(times(3, spawned)...)), api.OK)
	full(t, "within and one more", wide(inScope(times(49, inner)...), inScope(times(4, spawned)...)), api.ErrFull)
	p := wide(inScope(times(199, spawned)...))
	p.Items = append(p.Items, api.Item{Kind: api.IStruct, Name: "S"})
	full(t, "a struct", p, api.OK)
	p.Items = append(p.Items, api.Item{Kind: api.IFn, Name: "f", Result: api.Type{Kind: api.TInt}, Return: number()})
	full(t, "a function", p, api.ErrFull)
}

// P18.1: the most that a text may have can be.
func TestMostItems(t *testing.T) {
	var items []string
	for i := range api.MaxItems - 1 {
		c := string(rune('A' + i%26))
		items = append(items, []string{"struct S", "enum E"}[i%2]+c+string(rune('a'+i/26))+" { "+strings.Repeat("", i)+"}")
	}
	u := lowered(t, strings.Join(items, " ")+" fn main() -> int { 0 }")
	if len(u.Types) != api.MaxItems-1 || len(u.Funcs) != 1 {
		t.Error(len(u.Types), len(u.Funcs))
	}
	long := strings.Repeat("n", api.MaxName)
	u = lowered(t, "fn "+long+"("+long+": int) -> int { "+long+"("+long+") } struct "+strings.ToUpper(long)+" { "+long+": int } fn main() -> int { let "+long+" = "+strings.ToUpper(long)+" { "+long+" = 1 }; "+long+"."+long+" }")
	has(t, u.Funcs[0], "use 0; call 0 1; dead 0; return")
	has(t, u.Funcs[1], "const 1 1; struct 1 "+strings.ToUpper(long)+"; live 0; put 0; use 0 ."+long+"; dead 0; return")
}

// P18.1: where both apply the names come first.
func TestArgAheadOfFull(t *testing.T) {
	refused(t, wide(lets(api.MaxVars+1)), api.ErrArg)
	refused(t, wide(times(200, spawned)), api.ErrArg)
	refused(t, wide(times(2000, dropped)), api.ErrArg)
}

// P0.1: long rows of statements, and statements very deep within one another, are refused soon.
func TestLarge(t *testing.T) {
	full(t, "long", wide(lets(1), times(100000, assigned)), api.ErrFull)
	full(t, "values", wide(times(100000, done)), api.ErrFull)
	full(t, "threads", wide(inScope(times(100000, spawned)...)), api.ErrFull)
	s := done
	for range 36 {
		s = api.Stmt{Op: api.SBlock, Body: []api.Stmt{s}}
	}
	full(t, "deep", wide([]api.Stmt{s}), api.OK)
	for range 100000 {
		s = api.Stmt{Op: api.SBlock, Body: []api.Stmt{s}}
	}
	refused(t, wide([]api.Stmt{s}), api.ErrArg)
	e := number()
	for range 100000 {
		e = api.Expr{Op: api.ENeg, Args: []api.Expr{e}}
	}
	refused(t, wide([]api.Stmt{{Op: api.SDo, Exprs: []api.Expr{e}}}), api.ErrArg)
}
