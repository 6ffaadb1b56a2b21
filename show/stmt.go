package show

import (
	"strconv"

	"weftway/api"
)

func (w *writer) statements(list []api.Stmt) {
	for _, s := range list {
		w.statement(s)
	}
}

func (w *writer) block(list []api.Stmt) {
	w.put("{")
	w.statements(list)
	w.put("}")
}

func (w *writer) statement(s api.Stmt) {
	switch s.Op {
	case api.SLet:
		w.put("let", s.Name, "=")
		w.end(s.Exprs[0])
	case api.STake:
		w.put("let", s.Name, "{")
		w.list(len(s.Names), func(i int) { w.put(s.Names[i]) })
		w.put("}", "=")
		w.end(s.Exprs[0])
	case api.SAssign:
		w.place(s.Place)
		w.put("=")
		w.end(s.Exprs[0])
	case api.SDo:
		w.end(s.Exprs[0])
	case api.SDrop:
		w.put("drop", s.Name, ";")
	case api.SChan:
		w.put("chan", "<")
		w.typed(s.Type)
		w.put(">", "(", strconv.FormatInt(s.Int, 10), ")", "as", s.Name, ",", s.Second, ";")
	default:
		w.withBlock(s)
	}
}

// end writes the expression with which a statement ends.
func (w *writer) end(e api.Expr) {
	w.expr(e)
	w.put(";")
}

// withBlock writes a statement that ends with a block.
func (w *writer) withBlock(s api.Stmt) {
	switch s.Op {
	case api.SIf:
		w.put("if")
		w.expr(s.Exprs[0])
		w.block(s.Body)
		w.otherwise(s.Else)
	case api.SWhile:
		w.put("while")
		w.expr(s.Exprs[0])
		w.block(s.Body)
	case api.SMatch:
		w.put("match", s.Name, ":", s.Second, "{")
		w.arms(s.Arms)
		w.put("}")
	case api.SScope:
		w.put("scope")
		w.block(s.Body)
	case api.SSpawn:
		w.put("spawn", "(")
		w.pairs(s.Names, s.Exprs)
		w.put(")")
		w.block(s.Body)
	case api.SLock:
		w.put("lock")
		w.place(s.Place)
		w.put("as", s.Name)
		w.block(s.Body)
	case api.SBlock:
		w.block(s.Body)
	}
}

func (w *writer) otherwise(list []api.Stmt) {
	if len(list) > 0 {
		w.put("else")
		w.block(list)
	}
}

func (w *writer) arms(list []api.Arm) {
	for _, a := range list {
		w.put(a.Variant)
		if a.Name != "" {
			w.put("(", a.Name, ")")
		}
		w.put("=>")
		w.block(a.Body)
	}
}
