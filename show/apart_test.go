package show

import (
	"strings"
	"testing"
	"unsafe"

	"weftway/api"
)

// P0.4: what is answered shares no memory with what was handed in, be it a single token.
func TestApart(t *testing.T) {
	name, typeName := strings.Clone("x"), strings.Clone("S")
	y := api.Place{Name: name}
	for _, s := range []string{Place(y), Expr(api.Expr{Op: api.EUse, Place: y}), Type(named(typeName))} {
		at := unsafe.StringData(s)
		if at == unsafe.StringData(name) || at == unsafe.StringData(typeName) || len(s) != 1 {
			t.Errorf("%q", s)
		}
	}
}

// P0.4: what stands behind the end of a list that was handed in is neither read nor written.
func TestSpareRoom(t *testing.T) {
	args := []api.Expr{number(1), number(2)}
	path := []string{"a", "b"}
	e := api.Expr{Op: api.EStruct, Name: "S", Place: api.Place{Path: path[:1]}, Args: args[:1]}
	checkExpr(t, e, "S { a = 1 }")
	checkExpr(t, call("f", args[:1]...), "f ( 1 )")
	if args[1].Int != 2 || path[1] != "b" {
		t.Error(args, path)
	}
}
