package typing

import (
	"slices"
	"strconv"
	"strings"
	"testing"

	"weftway/api"
	"weftway/tree"
)

// use is an expression of that place, as `x.*.a`.
func use(place string) api.Expr { return at(api.EUse, place) }

// at is one of that operator at a place, with these Args.
func at(op uint8, place string, args ...api.Expr) api.Expr {
	steps := strings.Split(place, ".")
	return api.Expr{Op: op, Place: api.Place{Name: steps[0], Path: steps[1:]}, Args: args}
}

func made(op uint8, args ...api.Expr) api.Expr { return api.Expr{Op: op, Args: args} }

// envOf has a variable v0, v1, .. of each of the rows.
func envOf(rows ...string) []api.Field {
	var env []api.Field
	for i, row := range rows {
		env = append(env, api.Field{Name: "v" + strconv.Itoa(i), Type: typeOf(row)})
	}
	return env
}

// rowOf is what Expr answers, as a row; a hyphen, if there is none.
func rowOf(p api.Program, env []api.Field, e api.Expr) string {
	t, ok := Expr(p, env, e)
	switch {
	case ok:
		return words(t)
	case !tree.SameType(t, api.Type{}):
		return "a type beside no"
	}
	return "-"
}

// judgedExpr is what Expr answers of a whole expression, or one that is lent.
func judgedExpr(p api.Program, env []api.Field, e api.Expr) string {
	j := judgeOf(p, env)
	row := j.expr(e)
	if len(*j.faults) > 0 {
		return "-"
	}
	return row
}

// manyRows are those of types of all kinds.
func manyRows() []string {
	rows := []string{"int", "bool", "unit", "S", "E", "Atomic"}
	for _, kind := range []string{"Box", "Cell", "Rc", "Arc", "Mutex", "Sender", "Receiver", "ref", "mut"} {
		for _, part := range []string{"int", "bool", "S", "Box int", "ref S", "mut int"} {
			rows = append(rows, kind+" "+part)
		}
	}
	return append(rows, "Cell unit", "Box Box Box S", "Mutex Cell bool", "ref Rc S", "mut Arc Mutex int", "Sender unit", "Box Rc mut S")
}

const rowsText = "struct S { a: int, b: Box<S>, c: Cell<bool>, d: Atomic, e: Sender<int>, f: Receiver<E> } enum E { A, B(int), C(Box<E>), D(S) } "

// P10.3: each operator but those that name an item, with Args of all sorts, at places of all sorts.
func TestEachOperator(t *testing.T) {
	p := read(t, rowsText)
	rows := manyRows()
	env := envOf(rows...)
	var places []string
	for i := range rows {
		v := "v" + strconv.Itoa(i)
		places = append(places, v, v+".*", v+".a", v+".b", v+".*.c", v+".*.d", v+".*.*", v+".e", v+".f")
	}
	yes, no := map[uint8]int{}, map[uint8]int{}
	check := func(e api.Expr) {
		got, want := rowOf(p, env, e), judgedExpr(p, env, e)
		if got != want {
			t.Fatalf("%+v: %s, want %s", e, got, want)
		}
		if got == "-" {
			no[e.Op]++
		} else {
			yes[e.Op]++
		}
	}
	for op := uint8(1); op <= api.ERecv; op++ {
		switch {
		case op == api.EInt || op == api.EBool || op == api.EUnit:
			check(made(op))
			no[op] = 1
		case op >= api.EAdd && op <= api.EOr:
			for i := range rows {
				for k := range rows {
					check(made(op, use("v"+strconv.Itoa(i)), use("v"+strconv.Itoa(k))))
				}
			}
		case op == api.ECall || op == api.EStruct || op == api.EEnum:
			yes[op], no[op] = 1, 1
		case strings.Contains(chapter[op], ", @"):
			for i := range rows {
				for k := range rows {
					check(at(op, "v"+strconv.Itoa(k), use("v"+strconv.Itoa(i))))
				}
				for _, step := range []string{"*", "c", "d", "e", "f"} {
					check(at(op, "v3."+step, use("v"+strconv.Itoa(i))))
				}
			}
		case strings.Contains(chapter[op], "@"):
			for _, place := range places {
				check(at(op, place))
			}
		default:
			for i := range rows {
				check(made(op, use("v"+strconv.Itoa(i))))
			}
		}
		if yes[op] == 0 || no[op] == 0 {
			t.Error(op, yes[op], no[op])
		}
	}
}

// P10.3: what names an item, with Args of all sorts.
func TestEachNamed(t *testing.T) {
	p := read(t, rowsText+"struct P { a: Box<int>, b: bool } struct N { } fn f(a: &S, b: &mut int) -> Rc<S> { f(a, b) } fn none() -> unit { () }")
	rows := manyRows()
	env := envOf(rows...)
	named := func(op uint8, name, second string, path []string, args ...api.Expr) api.Expr {
		return api.Expr{Op: op, Name: name, Second: second, Place: api.Place{Path: path}, Args: args}
	}
	count := map[string]int{}
	check := func(e api.Expr) {
		got, want := rowOf(p, env, e), judgedExpr(p, env, e)
		if got != want {
			t.Fatalf("%+v: %s, want %s", e, got, want)
		}
		count[got]++
	}
	for i := range rows {
		a := use("v" + strconv.Itoa(i))
		check(named(api.EEnum, "E", "B", nil, a))
		check(named(api.EEnum, "E", "C", nil, made(api.EBox, a)))
		check(named(api.EEnum, "E", "D", nil, a))
		for k := range rows {
			b := use("v" + strconv.Itoa(k))
			check(named(api.ECall, "f", "", nil, a, b))
			check(named(api.EStruct, "P", "", []string{"a", "b"}, a, b))
		}
	}
	check(named(api.ECall, "none", "", nil))
	check(named(api.EStruct, "N", "", nil))
	check(named(api.EEnum, "E", "A", nil))
	if count["E"] != 4 || count["P"] != 1 || count["Rc S"] != 1 || count["unit"] != 1 || count["N"] != 1 {
		t.Error(count)
	}
}

// P10.3: false of what isn't there, or has other Args, or none, or other fields.
func TestNotThere(t *testing.T) {
	p := read(t, "struct S { a: int, b: int } enum E { A, B(int) } fn f(a: int) -> bool { true } fn g() -> int { 0 }")
	one := made(api.EInt)
	var env []api.Field
	for i, e := range []api.Expr{
		use("x"), use("x.a"), at(api.EShare, "x"), at(api.EMut, "x"), at(api.EGet, "x"), at(api.ESet, "x", one), at(api.EClone, "x"), at(api.ELoad, "x"), at(api.EStore, "x", one), at(api.EFetch, "x", one), at(api.ESend, "x", one), at(api.ERecv, "x"),
		{Op: api.ECall, Name: "gone"}, {Op: api.ECall, Name: "f"}, {Op: api.ECall, Name: "f", Args: []api.Expr{one, one}}, {Op: api.ECall, Name: "g", Args: []api.Expr{one}},
		{Op: api.EStruct, Name: "T"}, {Op: api.EStruct, Name: "S"}, {Op: api.EStruct, Name: "E"}, {Op: api.EStruct, Name: "S", Place: api.Place{Path: []string{"a"}}, Args: []api.Expr{one}},
		{Op: api.EStruct, Name: "S", Place: api.Place{Path: []string{"b", "a"}}, Args: []api.Expr{one, one}}, {Op: api.EStruct, Name: "S", Place: api.Place{Path: []string{"a", "c"}}, Args: []api.Expr{one, one}},
		{Op: api.EStruct, Name: "S", Place: api.Place{Path: []string{"a", "b", "b"}}, Args: []api.Expr{one, one, one}},
		{Op: api.EEnum, Name: "F", Second: "A"}, {Op: api.EEnum, Name: "S", Second: "A"}, {Op: api.EEnum, Name: "E", Second: "C"}, {Op: api.EEnum, Name: "E", Second: "A", Args: []api.Expr{one}}, {Op: api.EEnum, Name: "E", Second: "B"},
	} {
		if got := rowOf(p, env, e); got != "-" {
			t.Error(i, got)
		}
		if got := rowOf(p, env, made(api.EBox, e)); got != "-" {
			t.Error(i, got)
		}
		if got := rowOf(api.Program{}, nil, e); got != "-" {
			t.Error(i, got)
		}
	}
	// One of another kind isn't it, whatever it has.
	q := read(t, "enum N { } struct O { } enum P { A } struct P { a: int }")
	q.Items[1].Fields = []api.Field{{Name: "A"}}
	for i, e := range []api.Expr{{Op: api.EStruct, Name: "N"}, {Op: api.EEnum, Name: "O", Second: "A"}} {
		if got := rowOf(q, env, e); got != "-" {
			t.Error(i, got)
		}
	}
	if got := rowOf(q, env, api.Expr{Op: api.EStruct, Name: "P", Place: api.Place{Path: []string{"a"}}, Args: []api.Expr{one}}); got != "P" {
		t.Error(got)
	}
	for want, e := range map[string]api.Expr{
		"bool": {Op: api.ECall, Name: "f", Args: []api.Expr{one}}, "int": {Op: api.ECall, Name: "g"}, "S": {Op: api.EStruct, Name: "S", Place: api.Place{Path: []string{"a", "b"}}, Args: []api.Expr{one, one}}, "E": {Op: api.EEnum, Name: "E", Second: "A"},
	} {
		if got := rowOf(p, env, e); got != want {
			t.Error(want, got)
		}
	}
}

// P10.3: false, if something is wrong however deep within; each Arg counts.
func TestWrongWithin(t *testing.T) {
	p := read(t, "struct S { a: int, b: Box<int> } fn f(a: int, b: int, c: int, d: int, e: int, g: int) -> int { a } enum E { A(int) }")
	env := envOf("S", "ref S", "Cell int", "Atomic", "Sender int", "Mutex int")
	one, moved := made(api.EInt), use("v0.b")
	for _, wrong := range []api.Expr{moved, use("v9"), made(api.EBox, use("v1")), made(api.ENot, one), {Op: api.EInt, Int: -1}} {
		for i := range 6 {
			e := api.Expr{Op: api.ECall, Name: "f", Args: []api.Expr{one, one, one, one, one, one}}
			if got := rowOf(p, env, e); got != "int" {
				t.Fatal(got)
			}
			e.Args[i] = wrong
			for range 5 {
				if got := rowOf(p, env, e); got != "-" {
					t.Errorf("%d: %s", i, got)
				}
				e = made(api.ENeg, e)
			}
		}
		for i, e := range []api.Expr{
			at(api.ESet, "v2", wrong), at(api.EStore, "v3", wrong), at(api.EFetch, "v3", wrong), at(api.ESend, "v4", wrong), made(api.ECell, wrong), made(api.EUnbox, wrong), made(api.EUnbox, made(api.EBox, wrong)),
			made(api.EOpen, made(api.EMutex, wrong)), made(api.ERc, made(api.EArc, wrong)), made(api.EAtomic, wrong), {Op: api.EEnum, Name: "E", Second: "A", Args: []api.Expr{wrong}},
			{Op: api.EStruct, Name: "S", Place: api.Place{Path: []string{"a", "b"}}, Args: []api.Expr{wrong, made(api.EBox, one)}}, {Op: api.EStruct, Name: "S", Place: api.Place{Path: []string{"a", "b"}}, Args: []api.Expr{one, wrong}},
		} {
			if got := rowOf(p, env, e); got != "-" {
				t.Errorf("%d: %s", i, got)
			}
		}
	}
}

// P10.2, P10.3: of a name the last variable counts; of an item's the first.
func TestLastAndFirst(t *testing.T) {
	p := read(t, "struct S { a: int } struct S { a: bool, b: int } fn f(a: int) -> int { 0 } fn f(a: bool) -> bool { true } enum E { A, A(int) } enum E { B } struct T { a: int, a: bool }")
	env := []api.Field{{Name: "x", Type: typeOf("int")}, {Name: "y", Type: typeOf("S")}, {Name: "x", Type: typeOf("Box S")}, {Name: "z", Type: typeOf("unit")}, {Name: "x", Type: typeOf("mut S")}, {Name: "w", Type: typeOf("T")}}
	for n, want := range []string{"-", "int", "int", "Box S", "Box S", "mut S", "mut S"} {
		if got := rowOf(p, env[:n], use("x")); got != want {
			t.Error(n, got)
		}
	}
	one, yes := made(api.EInt), made(api.EBool)
	for _, row := range []struct {
		e    api.Expr
		want string
	}{
		{use("x.*.a"), "int"}, {use("x.*.b"), "-"}, {use("y.a"), "int"}, {use("w.a"), "int"}, {api.Expr{Op: api.ECall, Name: "f", Args: []api.Expr{one}}, "int"}, {api.Expr{Op: api.ECall, Name: "f", Args: []api.Expr{yes}}, "-"},
		{api.Expr{Op: api.EStruct, Name: "S", Place: api.Place{Path: []string{"a"}}, Args: []api.Expr{one}}, "S"}, {api.Expr{Op: api.EStruct, Name: "S", Place: api.Place{Path: []string{"a", "b"}}, Args: []api.Expr{yes, one}}, "-"},
		{api.Expr{Op: api.EEnum, Name: "E", Second: "A"}, "E"}, {api.Expr{Op: api.EEnum, Name: "E", Second: "A", Args: []api.Expr{one}}, "-"}, {api.Expr{Op: api.EEnum, Name: "E", Second: "B"}, "-"},
	} {
		if got := rowOf(p, env, row.e); got != row.want {
			t.Errorf("%+v: %s", row.e, got)
		}
	}
}

// P10.3: false of what isn't whole; what is lent may be asked for alone, and its place alone counts.
func TestExprNotWhole(t *testing.T) {
	p := read(t, "struct S { a: int } fn f(a: &int) -> int { 0 }")
	env := envOf("S", "int", "Cell int", "ref int")
	one, lent := made(api.EInt), at(api.EShare, "v1")
	for i, e := range []api.Expr{
		{}, {Op: 37}, {Op: 255}, {Op: api.EInt, Int: -1}, {Op: api.EInt, Name: "a"}, {Op: api.EInt, Args: []api.Expr{one}}, {Op: api.EBool, Int: 2}, {Op: api.EUnit, Int: 1}, made(api.ENeg), made(api.ENeg, one, one), made(api.EAdd, one), made(api.EAdd, one, one, one),
		{Op: api.EUse}, use(""), use("X"), use("v0.A"), use("v0.let"), use("let"), {Op: api.EUse, Place: api.Place{Name: "v1"}, Args: []api.Expr{one}}, {Op: api.EUse, Int: 1, Place: api.Place{Name: "v1"}}, at(api.ESet, "v2"), at(api.ESet, "v2", one, one), at(api.EGet, "v2", one),
		made(api.EBox, lent), made(api.ENeg, lent), made(api.EUnbox, made(api.EBox, lent)), at(api.ESet, "v2", lent), {Op: api.EStruct, Name: "S", Place: api.Place{Path: []string{"a"}}, Args: []api.Expr{lent}},
		{Op: api.EStruct, Name: "S", Args: []api.Expr{one}}, {Op: api.EStruct, Name: "S", Place: api.Place{Name: "a", Path: []string{"a"}}, Args: []api.Expr{one}}, {Op: api.ECall, Name: "F"}, {Op: api.ECall, Name: "f", Second: "S", Args: []api.Expr{lent}},
		{Op: api.EShare}, {Op: api.EMut}, at(api.EShare, "V"), at(api.EMut, "v0.S"), at(api.EShare, "v0."), {Op: api.EMut, Place: api.Place{Name: "v3", Path: slices.Repeat([]string{"*"}, api.MaxDeep+1)}},
	} {
		env := append(slices.Clone(env), api.Field{Type: typeOf("int")}, api.Field{Name: "X", Type: typeOf("int")}, api.Field{Name: "let", Type: typeOf("int")}, api.Field{Name: "V", Type: typeOf("int")})
		if got := rowOf(p, env, e); got != "-" {
			t.Errorf("%d: %s", i, got)
		}
	}
	for want, e := range map[string]api.Expr{
		"ref S": at(api.EShare, "v0"), "mut S": at(api.EMut, "v0"), "mut int": at(api.EMut, "v0.a"), "ref int": at(api.EShare, "v3.*"), "ref ref int": at(api.EShare, "v3"), "-": at(api.EMut, "v3.*"), "int": {Op: api.ECall, Name: "f", Args: []api.Expr{lent}},
	} {
		if got := rowOf(p, env, e); got != want {
			t.Errorf("%s: %s", want, got)
		}
		if e.Op == api.ECall {
			continue
		}
		// Of what is lent nothing else counts.
		e.Int, e.Name, e.Second, e.At, e.Args = -5, "X", "y", 7, []api.Expr{{}, use("gone")}
		if got := rowOf(p, env, e); got != want {
			t.Errorf("%s: %s", want, got)
		}
	}
}

// P10.3: forty deep, and deeper.
func TestDeepExpr(t *testing.T) {
	e, want := made(api.EInt), "int"
	for range api.MaxDeep - 1 {
		if got := rowOf(api.Program{}, nil, e); got != want {
			t.Fatal(got)
		}
		e, want = made(api.EBox, e), "Box "+want
	}
	if got := rowOf(api.Program{}, nil, e); got != want || len(strings.Fields(got)) != api.MaxDeep {
		t.Error(got)
	}
	if got := rowOf(api.Program{}, nil, made(api.EBox, e)); got != "-" {
		t.Error(got)
	}
	for range 50000 {
		e = made(api.ENeg, e)
	}
	if got := rowOf(api.Program{}, nil, e); got != "-" {
		t.Error(got)
	}
}

// P10.2, P10.3: a type that is too deep to be whole is the same as itself, may be boxed and taken out, but no place leads from it.
func TestDeepTypes(t *testing.T) {
	p := read(t, "fn f(a: int) -> int { a }")
	deep := strings.Repeat("Box ", api.MaxDeep-1) + "int"
	env := envOf(deep, "Box "+deep, "ref "+deep)
	for place, want := range map[string]string{"v0": deep, "v0.*": "-", "v1": "-", "v1.*": "-", "v2": "-", "v2.*": "-"} {
		if got := rowOf(p, env, use(place)); got != want {
			t.Errorf("%s: %s", place, got)
		}
	}
	x := use("v0")
	for want, e := range map[string]api.Expr{
		"Box " + deep: made(api.EBox, x), "Rc Box " + deep: made(api.ERc, made(api.EBox, x)), deep: made(api.EUnbox, made(api.EBox, x)),
		strings.TrimPrefix(deep, "Box "): made(api.EUnbox, made(api.EUnbox, made(api.EBox, x))), "ref " + deep: at(api.EShare, "v0"), "mut " + deep: at(api.EMut, "v0"),
	} {
		if got := rowOf(p, env, e); got != want {
			t.Errorf("%s, want %s", got, want)
		}
	}
	if _, writable, ok := Place(p, env, use("v1").Place); writable || ok {
		t.Error("a place of what isn't whole")
	}
	ahead := "fn main() -> int { 0 } fn f(x: " + strings.Repeat("Box<", 37) + "int" + strings.Repeat(">", 37) + ") -> int { "
	for _, s := range []string{
		"let i = box(box(x)); i;", "let i = box(box(box(x)));", "let i = box(box(box(x))); # i;", "let i = box(box(box(x))); let j = box(# i);", "let i = unbox(box(box(box(x)))); i;",
		"let i = box(box(x)); let j = &i; # j.*;", "let i = box(box(x)); let j = &mut i; # j.* = i;", "let i = mutex(box(x)); lock i as g { #m g.*; }", "let i = mutex(box(box(x))); # lock i as g { }", "let i = box(box(box(x))); # i = box(box(box(x)));",
		"let i = box(box(x)); scope { spawn (j = &i) { # j.*; } }",
	} {
		told(t, ahead+s+" 0 }")
	}
}
