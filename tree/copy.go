package tree

import (
	"strings"

	"weftway/api"
)

// copier has for each sort of what a tree is made of a closure that copies one.
type copier struct {
	place     func(api.Place) api.Place
	typed     func(api.Type) api.Type
	expr      func(api.Expr) api.Expr
	arm       func(api.Arm) api.Arm
	statement func(api.Stmt) api.Stmt
	field     func(api.Field) api.Field
	item      func(api.Item) api.Item
	program   func(api.Program) api.Program
}

// makeCopier makes one whose copies have what keep makes of each At.
func makeCopier(keep func(at int) int) copier {
	var c copier
	c.place = func(x api.Place) api.Place {
		return api.Place{Name: strings.Clone(x.Name), Path: copyEach(x.Path, strings.Clone)}
	}
	c.typed = func(t api.Type) api.Type {
		return api.Type{Kind: t.Kind, Name: strings.Clone(t.Name), Args: copyEach(t.Args, c.typed)}
	}
	c.expr = func(e api.Expr) api.Expr {
		return api.Expr{
			Op: e.Op, Int: e.Int, Name: strings.Clone(e.Name), Second: strings.Clone(e.Second),
			Place: c.place(e.Place), Args: copyEach(e.Args, c.expr), At: keep(e.At),
		}
	}
	c.arm = func(a api.Arm) api.Arm {
		return api.Arm{
			Variant: strings.Clone(a.Variant), Name: strings.Clone(a.Name), Body: copyEach(a.Body, c.statement),
		}
	}
	c.statement = func(s api.Stmt) api.Stmt {
		return api.Stmt{
			Op: s.Op, Name: strings.Clone(s.Name), Second: strings.Clone(s.Second),
			Names: copyEach(s.Names, strings.Clone), Type: c.typed(s.Type), Int: s.Int,
			Place: c.place(s.Place), Exprs: copyEach(s.Exprs, c.expr),
			Body: copyEach(s.Body, c.statement), Else: copyEach(s.Else, c.statement),
			Arms: copyEach(s.Arms, c.arm), At: keep(s.At),
		}
	}
	c.field = func(f api.Field) api.Field {
		return api.Field{Name: strings.Clone(f.Name), Type: c.typed(f.Type)}
	}
	c.item = func(x api.Item) api.Item {
		return api.Item{
			Kind: x.Kind, Name: strings.Clone(x.Name), Fields: copyEach(x.Fields, c.field),
			Result: c.typed(x.Result), Body: copyEach(x.Body, c.statement),
			Return: c.expr(x.Return), At: keep(x.At),
		}
	}
	c.program = func(p api.Program) api.Program {
		return api.Program{Items: copyEach(p.Items, c.item)}
	}
	return c
}

// copyEach is the list of the copies, in memory of its own even where the list is empty; of none it is none.
func copyEach[T any](list []T, copyOne func(T) T) []T {
	if list == nil {
		return nil
	}
	out := make([]T, len(list))
	for i, x := range list {
		out[i] = copyOne(x)
	}
	return out
}
