package tree

import (
	"strings"

	"weftway/api"
)

// What the tests make trees of, in few words.

func mk(kind uint8, args ...api.Type) api.Type { return api.Type{Kind: kind, Args: args} }

func named(s string) api.Type { return api.Type{Kind: api.TNamed, Name: s} }

func place(s string) api.Place {
	steps := strings.Split(s, ".")
	return api.Place{Name: steps[0], Path: steps[1:]}
}

func ex(op uint8, args ...api.Expr) api.Expr { return api.Expr{Op: op, Args: args} }

func at(op uint8, where string, args ...api.Expr) api.Expr {
	return api.Expr{Op: op, Place: place(where), Args: args}
}

func number(n int64) api.Expr { return api.Expr{Op: api.EInt, Int: n} }

func call(name string, args ...api.Expr) api.Expr {
	return api.Expr{Op: api.ECall, Name: name, Args: args}
}

// made is a struct's expression: the fields' names with a blank between any two.
func made(name, fields string, args ...api.Expr) api.Expr {
	return api.Expr{Op: api.EStruct, Name: name, Place: api.Place{Path: strings.Fields(fields)}, Args: args}
}

func variant(enum, name string, args ...api.Expr) api.Expr {
	return api.Expr{Op: api.EEnum, Name: enum, Second: name, Args: args}
}

func do(e api.Expr) api.Stmt { return api.Stmt{Op: api.SDo, Exprs: []api.Expr{e}} }

func block(l ...api.Stmt) api.Stmt { return api.Stmt{Op: api.SBlock, Body: l} }

func let(name string, e api.Expr) api.Stmt {
	return api.Stmt{Op: api.SLet, Name: name, Exprs: []api.Expr{e}}
}

func spawn(names string, exprs ...api.Expr) api.Stmt {
	return api.Stmt{Op: api.SSpawn, Names: strings.Fields(names), Exprs: exprs}
}

// main is a program of one function with these statements.
func main(l ...api.Stmt) api.Program {
	return items(api.Item{Kind: api.IFn, Name: "main", Result: mk(api.TInt), Body: l, Return: number(0)})
}

func items(l ...api.Item) api.Program { return api.Program{Items: l} }

// fields has one for each name, each of that type.
func fields(t api.Type, names string) []api.Field {
	var out []api.Field
	for _, s := range strings.Fields(names) {
		out = append(out, api.Field{Name: s, Type: t})
	}
	return out
}

// Of each sort its kinds: which fields count beside Kind, Op and At, and one that is whole.

type typeKind struct {
	kind   uint8
	counts string
	sample api.Type
}

func typeKinds() []typeKind {
	out := []typeKind{{api.TNamed, "Name", named("S")}}
	for _, k := range []uint8{api.TInt, api.TBool, api.TUnit, api.TAtomic} {
		out = append(out, typeKind{k, "", mk(k)})
	}
	for _, k := range []uint8{api.TBox, api.TCell, api.TRc, api.TArc, api.TMutex, api.TSender, api.TReceiver, api.TRef, api.TMut} {
		out = append(out, typeKind{k, "Args", mk(k, mk(api.TInt))})
	}
	return out
}

type exprKind struct {
	op     uint8
	counts string
	sample api.Expr
}

// exprKinds has all, the lent ones too.
func exprKinds() []exprKind {
	one, two := number(1), number(2)
	out := []exprKind{
		{api.EInt, "Int", number(7)},
		{api.EBool, "Int", api.Expr{Op: api.EBool, Int: 1}},
		{api.EUnit, "", ex(api.EUnit)},
		{api.ECall, "Name Args", call("f", one, two)},
		{api.EStruct, "Name Args Place", made("S", "a b", one, two)},
		{api.EEnum, "Name Second Args", variant("E", "A", one)},
	}
	for _, k := range []uint8{api.EUse, api.EShare, api.EMut, api.EGet, api.EClone, api.ELoad, api.ERecv} {
		out = append(out, exprKind{k, "Place", at(k, "x.a.*")})
	}
	for _, k := range []uint8{api.ESet, api.EStore, api.EFetch, api.ESend} {
		out = append(out, exprKind{k, "Place Args", at(k, "x.*", one)})
	}
	for _, k := range []uint8{api.ENeg, api.ENot, api.EBox, api.EUnbox, api.ECell, api.ERc, api.EArc, api.EMutex, api.EOpen, api.EAtomic} {
		out = append(out, exprKind{k, "Args", ex(k, one)})
	}
	for _, k := range []uint8{api.EAdd, api.ESub, api.EMul, api.EDiv, api.EMod, api.ELess, api.EEqual, api.EAnd, api.EOr} {
		out = append(out, exprKind{k, "Args", ex(k, one, two)})
	}
	return out
}

type stmtKind struct {
	op     uint8
	counts string
	sample api.Stmt
}

func stmtKinds() []stmtKind {
	one := []api.Expr{number(1)}
	body := []api.Stmt{do(number(1))}
	arms := []api.Arm{{Variant: "A", Body: body}, {Variant: "B", Name: "y"}}
	return []stmtKind{
		{api.SLet, "Name Exprs", api.Stmt{Op: api.SLet, Name: "x", Exprs: one}},
		{api.STake, "Name Names Exprs", api.Stmt{Op: api.STake, Name: "S", Names: []string{"a", "b"}, Exprs: one}},
		{api.SAssign, "Place Exprs", api.Stmt{Op: api.SAssign, Place: place("x.a"), Exprs: one}},
		{api.SDo, "Exprs", api.Stmt{Op: api.SDo, Exprs: one}},
		{api.SDrop, "Name", api.Stmt{Op: api.SDrop, Name: "x"}},
		{api.SIf, "Exprs Body Else", api.Stmt{Op: api.SIf, Exprs: one, Body: body, Else: []api.Stmt{block()}}},
		{api.SWhile, "Exprs Body", api.Stmt{Op: api.SWhile, Exprs: one, Body: body}},
		{api.SMatch, "Name Second Arms", api.Stmt{Op: api.SMatch, Name: "x", Second: "E", Arms: arms}},
		{api.SScope, "Body", api.Stmt{Op: api.SScope, Body: body}},
		{api.SSpawn, "Names Exprs Body", api.Stmt{Op: api.SSpawn, Names: []string{"a"}, Exprs: one, Body: body}},
		{api.SLock, "Place Name Body", api.Stmt{Op: api.SLock, Place: place("x.*"), Name: "g", Body: body}},
		{api.SChan, "Type Int Name Second", api.Stmt{Op: api.SChan, Type: mk(api.TBox, named("S")), Int: 2, Name: "s", Second: "r"}},
		{api.SBlock, "Body", api.Stmt{Op: api.SBlock, Body: body}},
	}
}

type itemKind struct {
	kind   uint8
	counts string
	sample api.Item
}

func itemKinds() []itemKind {
	variants := append(fields(mk(api.TInt), "A"), fields(api.Type{}, "B")...)
	return []itemKind{
		{api.IStruct, "Name Fields", api.Item{Kind: api.IStruct, Name: "S", Fields: fields(mk(api.TInt), "a b")}},
		{api.IEnum, "Name Fields", api.Item{Kind: api.IEnum, Name: "E", Fields: variants}},
		{api.IFn, "Name Fields Result Body Return", api.Item{Kind: api.IFn, Name: "f", Fields: fields(mk(api.TRef, named("S")), "a b"), Result: mk(api.TInt), Body: []api.Stmt{do(number(1))}, Return: number(0)}},
	}
}

// everything is a whole program in which each kind stands somewhere.
func everything() api.Program {
	var body []api.Stmt
	for _, k := range stmtKinds() {
		body = append(body, k.sample)
	}
	for _, k := range exprKinds() {
		body = append(body, let("x", k.sample), do(call("f", k.sample)), spawn("a b", k.sample, number(3)))
	}
	for _, k := range typeKinds() {
		body = append(body, api.Stmt{Op: api.SChan, Type: k.sample, Int: 1, Name: "s", Second: "r"})
	}
	p := main(body...)
	for _, k := range itemKinds() {
		p.Items = append(p.Items, k.sample)
	}
	return apart(p)
}
