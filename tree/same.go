package tree

import (
	"slices"

	"weftway/api"
)

// What is the same is so in each field but At, those that don't count for its kind too: sameness is asked of trees that aren't whole, too.

func samePlace(a, b api.Place) bool {
	return a.Name == b.Name && slices.Equal(a.Path, b.Path)
}

func sameType(a, b api.Type) bool {
	return a.Kind == b.Kind && a.Name == b.Name && slices.EqualFunc(a.Args, b.Args, sameType)
}

func sameExpr(a, b api.Expr) bool {
	return a.Op == b.Op && a.Int == b.Int && a.Name == b.Name && a.Second == b.Second &&
		samePlace(a.Place, b.Place) && slices.EqualFunc(a.Args, b.Args, sameExpr)
}

func sameArm(a, b api.Arm) bool {
	return a.Variant == b.Variant && a.Name == b.Name && slices.EqualFunc(a.Body, b.Body, sameStmt)
}

func sameStmt(a, b api.Stmt) bool {
	return a.Op == b.Op && a.Name == b.Name && a.Second == b.Second && a.Int == b.Int &&
		slices.Equal(a.Names, b.Names) && sameType(a.Type, b.Type) && samePlace(a.Place, b.Place) &&
		slices.EqualFunc(a.Exprs, b.Exprs, sameExpr) && slices.EqualFunc(a.Body, b.Body, sameStmt) &&
		slices.EqualFunc(a.Else, b.Else, sameStmt) && slices.EqualFunc(a.Arms, b.Arms, sameArm)
}

func sameField(a, b api.Field) bool { return a.Name == b.Name && sameType(a.Type, b.Type) }

func sameItem(a, b api.Item) bool {
	return a.Kind == b.Kind && a.Name == b.Name && slices.EqualFunc(a.Fields, b.Fields, sameField) &&
		sameType(a.Result, b.Result) && slices.EqualFunc(a.Body, b.Body, sameStmt) &&
		sameExpr(a.Return, b.Return)
}
