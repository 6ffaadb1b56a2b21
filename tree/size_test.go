package tree

import (
	"reflect"
	"slices"
	"testing"

	"weftway/api"
)

func checkSize(t *testing.T, what string, p api.Program, depth, size int) {
	t.Helper()
	if Depth(p) != depth || Size(p) != size {
		t.Errorf("%s: %d deep, of size %d; want %d, %d", what, Depth(p), Size(p), depth, size)
	}
}

// P3.2: programs that are whole.
func TestSizes(t *testing.T) {
	checkSize(t, "nothing", api.Program{}, 1, 0)
	checkSize(t, "no items", api.Program{Items: []api.Item{}}, 1, 0)
	checkSize(t, "main", main(), 3, 2)
	checkSize(t, "two functions", items(main().Items[0], main().Items[0]), 3, 4)
	checkSize(t, "a drop", main(api.Stmt{Op: api.SDrop, Name: "x"}), 3, 3)
	checkSize(t, "1", main(do(number(1))), 4, 4)
	checkSize(t, "1 + -2", main(do(ex(api.EAdd, number(1), ex(api.ENeg, number(2))))), 6, 7)
	checkSize(t, "blocks", main(block(), block(block(), block())), 4, 6)
	checkSize(t, "places and names don't count", main(do(at(api.EUse, "x.a.*.b.c"))), 4, 4)
	checkSize(t, "an if", main(api.Stmt{Op: api.SIf, Exprs: []api.Expr{number(1)}, Body: []api.Stmt{block()}, Else: []api.Stmt{do(number(1)), block()}}), 5, 8)
	checkSize(t, "a match", main(api.Stmt{Op: api.SMatch, Name: "x", Second: "E", Arms: []api.Arm{{Variant: "A", Body: []api.Stmt{block()}}, {Variant: "B"}, {Variant: "C", Body: []api.Stmt{do(number(1))}}}}), 5, 6)
	checkSize(t, "arms have no level of their own", main(api.Stmt{Op: api.SMatch, Name: "x", Second: "E", Arms: []api.Arm{{Variant: "A"}}}), 3, 3)
	checkSize(t, "a spawn", main(spawn("a b", at(api.EShare, "x"), number(1))), 4, 5)
	channel := func(t api.Type) api.Program {
		return main(api.Stmt{Op: api.SChan, Type: t, Int: 1, Name: "s", Second: "r"})
	}
	checkSize(t, "a channel of ints", channel(mk(api.TInt)), 4, 3)
	checkSize(t, "a channel of Boxes of Boxes of ints", channel(deepType(3)), 6, 3)
	checkSize(t, "a parameter", items(api.Item{Kind: api.IFn, Name: "f", Fields: fields(deepType(5), "a"), Result: mk(api.TInt), Return: number(0)}), 7, 2)
	checkSize(t, "a result", items(api.Item{Kind: api.IFn, Name: "f", Result: deepType(4), Return: number(0)}), 6, 2)
	checkSize(t, "a Return", items(api.Item{Kind: api.IFn, Name: "f", Result: mk(api.TInt), Return: deepExpr(4)}), 6, 8)
}

// P3.2: a type, an expression that is zero is 1 deep, and an expression that is zero is one, but for the Return of an item that is no function.
func TestZeroSizes(t *testing.T) {
	checkSize(t, "a zero item", items(api.Item{}), 3, 1)
	checkSize(t, "a struct without fields", items(api.Item{Kind: api.IStruct, Name: "S"}), 3, 1)
	checkSize(t, "an enum without payloads", items(api.Item{Kind: api.IEnum, Name: "E", Fields: fields(api.Type{}, "A B")}), 3, 1)
	checkSize(t, "a struct of Boxes", items(api.Item{Kind: api.IStruct, Name: "S", Fields: fields(deepType(2), "a b")}), 4, 1)
	checkSize(t, "a function that is zero but for its kind", items(api.Item{Kind: api.IFn}), 3, 2)
	checkSize(t, "a zero statement", main(api.Stmt{}), 3, 3)
	checkSize(t, "a zero expression", main(do(api.Expr{})), 4, 4)
	checkSize(t, "zero expressions in one", main(do(ex(0, api.Expr{}, api.Expr{}))), 5, 6)
	checkSize(t, "a channel of a zero type", main(api.Stmt{Op: api.SChan}), 4, 3)
	checkSize(t, "a Box of a zero type", main(api.Stmt{Op: api.SChan, Type: mk(0, api.Type{})}), 5, 3)
	checkSize(t, "a zero type in a parameter", items(api.Item{Fields: []api.Field{{Type: mk(0, mk(0, api.Type{}))}}}), 5, 1)
}

// P3.2: a function's Return counts with all that is in it; what stands in that of another item, zero or not, is a level each, but no expression.
func TestSizesOfReturns(t *testing.T) {
	returns := []struct {
		what   string
		e      api.Expr
		levels int
		size   int
	}{
		{"zero", api.Expr{}, 1, 1},
		{"zero but for an At", api.Expr{At: 5}, 1, 1},
		{"0", number(0), 1, 1},
		{"additions", deepExpr(7), 7, 13},
		{"a call of what is lent", call("f", at(api.EShare, "x"), call("g", number(1), api.Expr{})), 3, 5},
		{"of no kind", ex(0, number(1), ex(0, number(2))), 3, 4},
	}
	for _, r := range returns {
		for kind := range 256 {
			x := api.Item{Kind: uint8(kind), Return: r.e}
			size := 1
			if x.Kind == api.IFn {
				size += r.size
			}
			checkSize(t, r.what, items(x), 2+r.levels, size)
			x.Body = []api.Stmt{do(r.e)}
			checkSize(t, r.what+" and a statement", items(x), 3+r.levels, size+1+r.size)
		}
	}
	of := mk(api.TInt)
	s := api.Item{Kind: api.IStruct, Name: "S", Fields: fields(of, "a b")}
	e := api.Item{Kind: api.IEnum, Name: "E", Fields: fields(of, "A B")}
	f := main().Items[0]
	checkSize(t, "a struct and an enum", items(s, e), 3, 2)
	checkSize(t, "a struct, an enum and a function", items(s, e, f), 3, 4)
	checkSize(t, "a function ahead of structs", items(f, s, s), 3, 4)
}

// P3.2: programs that aren't whole, too: fields that don't count for a kind are gone through, but a Type of another statement than a channel's isn't; and the Return of an item that is no function adds to how deep they are alone.
func TestSizesOfWhatIsNotWhole(t *testing.T) {
	all := api.Stmt{Type: deepType(9), Exprs: []api.Expr{number(1)}, Body: []api.Stmt{block()}, Else: []api.Stmt{block(block())}, Arms: []api.Arm{{Body: []api.Stmt{{}, {}}}}}
	for op := range 256 {
		all.Op = uint8(op)
		depth := 5
		if all.Op == api.SChan {
			depth = 12
		}
		checkSize(t, "a statement of all fields", main(all), depth, 9)
		checkSize(t, "an expression with Args", main(do(ex(uint8(op), deepExpr(3)))), 7, 9)
		size := 2
		if uint8(op) == api.IFn {
			size = 5
		}
		checkSize(t, "an item of all fields", items(api.Item{Kind: uint8(op), Fields: fields(deepType(3), "a"), Result: deepType(2), Body: []api.Stmt{block()}, Return: deepExpr(2)}), 5, size)
		checkSize(t, "a type", items(api.Item{Result: mk(uint8(op), mk(api.TInt), deepType(4))}), 7, 1)
	}
	checkSize(t, "31 items", api.Program{Items: make([]api.Item, 31)}, 3, 31)
	checkSize(t, "31 functions", api.Program{Items: slices.Repeat([]api.Item{{Kind: api.IFn}}, 31)}, 3, 62)
	checkSize(t, "7 arguments", main(do(call("f", slices.Repeat([]api.Expr{number(1)}, 7)...))), 5, 11)
	checkSize(t, "deep statements", main(deepStmt(1000, block)), 1002, 2001)
	checkSize(t, "deep expressions", main(do(deepExpr(1000))), 1003, 2002)
	checkSize(t, "deep types", items(api.Item{Result: deepType(1000)}), 1002, 1)
}

// P3.2: each spot of each kind, held against brackets.
func TestSizesOfEachSpot(t *testing.T) {
	for i, p := range kindPrograms() {
		for _, s := range spots(&p) {
			for _, x := range s.others() {
				s.with(x, func() bool {
					if Depth(p) != modelDepth(p) || Size(p) != modelSize(p) {
						t.Errorf("%d with %v at %s: %d deep, of size %d; want %d, %d", i, x, s.name, Depth(p), Size(p), modelDepth(p), modelSize(p))
					}
					return true
				})
			}
		}
	}
	p := everything()
	if Depth(p) != modelDepth(p) || Size(p) != modelSize(p) {
		t.Error("everything", Depth(p), Size(p))
	}
}

// P0.1: 2^16 levels end, too.
func TestVeryDeep(t *testing.T) {
	const levels = 1 << 16
	s, e, of := block(), number(1), mk(api.TInt)
	for range levels - 1 {
		s, e, of = block(s), ex(api.ENeg, e), mk(api.TBox, of)
	}
	for _, p := range []api.Program{main(s), main(do(e)), items(api.Item{Kind: api.IFn, Name: "f", Result: of, Return: number(0)})} {
		if d := Depth(p); d < levels+2 || Whole(p) || !Same(p, Copy(p)) || !Same(Erase(p), p) {
			t.Error(d, Whole(p))
		}
	}
	if WholeType(of) || WholeExpr(e) || !SameType(of, of) || !SameExpr(e, e) {
		t.Error("so deep a type, an expression")
	}
}

// P0.1, P0.4: what is asked is left as it is.
func TestNothingIsChanged(t *testing.T) {
	p := full[api.Program](4)
	want := apart(p)
	Whole(p)
	Depth(p)
	Size(p)
	Copy(p)
	Erase(p)
	Same(p, p)
	Same(everything(), p)
	if !reflect.DeepEqual(p, want) {
		t.Error("changed")
	}
}
