package parse

import (
	"strings"

	"weftway/api"
)

// What the tests make trees of, in few words.

func mk(kind uint8, args ...api.Type) api.Type { return api.Type{Kind: kind, Args: args} }

func named(s string) api.Type { return api.Type{Kind: api.TNamed, Name: s} }

func place(s string) api.Place {
	steps := strings.Split(s, ".")
	return api.Place{Name: steps[0], Path: steps[1:]}
}

func ex(op uint8, args ...api.Expr) api.Expr { return api.Expr{Op: op, Args: args} }

func at(op uint8, where string, args ...api.Expr) api.Expr {
	return api.Expr{Op: op, Place: place(where), Args: args}
}

func use(where string) api.Expr { return at(api.EUse, where) }

func number(n int64) api.Expr { return api.Expr{Op: api.EInt, Int: n} }

func call(name string, args ...api.Expr) api.Expr {
	return api.Expr{Op: api.ECall, Name: name, Args: args}
}

// made is a struct's expression: the fields' names with a blank between any two.
func made(name, fields string, args ...api.Expr) api.Expr {
	return api.Expr{Op: api.EStruct, Name: name, Place: api.Place{Path: strings.Fields(fields)}, Args: args}
}

func variant(enum, name string, args ...api.Expr) api.Expr {
	return api.Expr{Op: api.EEnum, Name: enum, Second: name, Args: args}
}

func do(e api.Expr) api.Stmt { return api.Stmt{Op: api.SDo, Exprs: []api.Expr{e}} }

func block(l ...api.Stmt) api.Stmt { return api.Stmt{Op: api.SBlock, Body: l} }

func let(name string, e api.Expr) api.Stmt {
	return api.Stmt{Op: api.SLet, Name: name, Exprs: []api.Expr{e}}
}

func take(name, names string, e api.Expr) api.Stmt {
	return api.Stmt{Op: api.STake, Name: name, Names: strings.Fields(names), Exprs: []api.Expr{e}}
}

func assign(where string, e api.Expr) api.Stmt {
	return api.Stmt{Op: api.SAssign, Place: place(where), Exprs: []api.Expr{e}}
}

func choose(e api.Expr, body, other []api.Stmt) api.Stmt {
	return api.Stmt{Op: api.SIf, Exprs: []api.Expr{e}, Body: body, Else: other}
}

func while(e api.Expr, body ...api.Stmt) api.Stmt {
	return api.Stmt{Op: api.SWhile, Exprs: []api.Expr{e}, Body: body}
}

func match(name, enum string, arms ...api.Arm) api.Stmt {
	return api.Stmt{Op: api.SMatch, Name: name, Second: enum, Arms: arms}
}

func scope(body ...api.Stmt) api.Stmt { return api.Stmt{Op: api.SScope, Body: body} }

func spawn(names string, exprs []api.Expr, body ...api.Stmt) api.Stmt {
	return api.Stmt{Op: api.SSpawn, Names: strings.Fields(names), Exprs: exprs, Body: body}
}

func lock(where, name string, body ...api.Stmt) api.Stmt {
	return api.Stmt{Op: api.SLock, Place: place(where), Name: name, Body: body}
}

func channel(t api.Type, room int64, s, r string) api.Stmt {
	return api.Stmt{Op: api.SChan, Type: t, Int: room, Name: s, Second: r}
}

func field(name string, t api.Type) api.Field { return api.Field{Name: name, Type: t} }

func structure(name string, fields ...api.Field) api.Item {
	return api.Item{Kind: api.IStruct, Name: name, Fields: fields}
}

func enum(name string, variants ...api.Field) api.Item {
	return api.Item{Kind: api.IEnum, Name: name, Fields: variants}
}

func function(name string, params []api.Field, result api.Type, value api.Expr, body ...api.Stmt) api.Item {
	return api.Item{Kind: api.IFn, Name: name, Fields: params, Result: result, Body: body, Return: value}
}

func items(l ...api.Item) api.Program { return api.Program{Items: l} }

// main is a program of one function with these statements.
func main(l ...api.Stmt) api.Program {
	return items(function("main", nil, mk(api.TInt), number(0), l...))
}

// nested is x with f done to it so many times.
func nested[T any](n int, x T, f func(T) T) T {
	for range n {
		x = f(x)
	}
	return x
}

// steps is a place of so many steps.
func steps(n int) api.Place {
	x := api.Place{Name: "x"}
	for i := range n {
		x.Path = append(x.Path, []string{"*", "a"}[i%2])
	}
	return x
}
