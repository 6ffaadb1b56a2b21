package tree

import (
	"reflect"
	"slices"
	"strings"
	"testing"

	"weftway/api"
)

func checkProgram(t *testing.T, what string, p api.Program, want bool) {
	t.Helper()
	if Whole(p) != want {
		t.Errorf("%s: whole is %v: %.300s", what, !want, written(p))
	}
}

func checkExpr(t *testing.T, what string, e api.Expr, want bool) {
	t.Helper()
	if WholeExpr(e) != want {
		t.Errorf("%s: whole is %v: %.300s", what, !want, written(e))
	}
	checkProgram(t, what+", done", main(do(e)), want)
}

func checkType(t *testing.T, what string, x api.Type, want bool) {
	t.Helper()
	if WholeType(x) != want {
		t.Errorf("%s: whole is %v: %.300s", what, !want, written(x))
	}
	checkProgram(t, what+", a field's", items(api.Item{Kind: api.IStruct, Name: "S", Fields: fields(x, "a")}), want)
}

// The rows of the chapter's examples.
func TestExamples(t *testing.T) {
	none, small := api.Program{}, main()
	if !Whole(none) || Depth(none) != 1 || Size(none) != 0 {
		t.Error("no items", Whole(none), Depth(none), Size(none))
	}
	if !Whole(small) || Depth(small) != 3 || Size(small) != 2 {
		t.Error("main", Whole(small), Depth(small), Size(small))
	}
	checkType(t, "int", mk(api.TInt), true)
	checkType(t, "Box without Args", mk(api.TBox), false)
	checkType(t, "int with a Name", api.Type{Kind: api.TInt, Name: "S"}, false)
	checkExpr(t, "-1", number(-1), false)
	checkExpr(t, "lent", at(api.EShare, "x"), false)
	checkExpr(t, "a call with a lent one", call("f", at(api.EShare, "x")), true)
	for s, want := range map[string]bool{"x.a.*": true, "X": false, "x.let": false} {
		if WholePlace(place(s)) != want {
			t.Error(s, !want)
		}
	}
}

// P3.1: each kind has a tree that is whole, and there are no other kinds.
func TestKinds(t *testing.T) {
	seen := map[string]bool{}
	for _, k := range typeKinds() {
		checkType(t, "a type", k.sample, true)
		seen[string(rune('T'))+string(rune(k.kind))] = true
	}
	for _, k := range exprKinds() {
		lent := k.op == api.EShare || k.op == api.EMut
		checkExpr(t, "an expression", k.sample, !lent)
		seen[string(rune('E'))+string(rune(k.op))] = true
	}
	for _, k := range stmtKinds() {
		checkProgram(t, "a statement", main(k.sample), true)
		seen[string(rune('S'))+string(rune(k.op))] = true
	}
	for _, k := range itemKinds() {
		checkProgram(t, "an item", items(k.sample), true)
		seen[string(rune('I'))+string(rune(k.kind))] = true
	}
	if len(seen) != 14+36+13+3 {
		t.Error("so many kinds were tried:", len(seen))
	}
	checkProgram(t, "everything", everything(), true)
}

// P3.1: what is of no kind isn't whole, whichever fields it has.
func TestNoKinds(t *testing.T) {
	for kind := range 256 {
		k := uint8(kind)
		for _, s := range typeKinds() {
			s.sample.Kind = k
			checkType(t, "a type", s.sample, modelWholeType(s.sample))
		}
		for _, s := range exprKinds() {
			s.sample.Op = k
			checkExpr(t, "an expression", s.sample, modelWholeExpr(s.sample))
		}
		for _, s := range stmtKinds() {
			s.sample.Op = k
			checkProgram(t, "a statement", main(s.sample), stmtLetter(s.sample) == "s")
		}
		for _, s := range itemKinds() {
			s.sample.Kind = k
			checkProgram(t, "an item", items(s.sample), isItem(s.sample))
		}
	}
	for _, k := range []uint8{0, 15, 255} {
		checkType(t, "no kind", mk(k), false)
		checkType(t, "no kind", mk(k, mk(api.TInt)), false)
	}
	for _, k := range []uint8{0, 37, 255} {
		checkExpr(t, "no kind", ex(k), false)
		checkExpr(t, "no kind", ex(k, number(1)), false)
	}
	for _, k := range []uint8{0, 14, 255} {
		checkProgram(t, "no kind", main(api.Stmt{Op: k}), false)
		checkProgram(t, "no kind", main(api.Stmt{Op: k, Exprs: []api.Expr{number(1)}}), false)
	}
	for _, k := range []uint8{0, 4, 255} {
		checkProgram(t, "no kind", items(api.Item{Kind: k}), false)
		checkProgram(t, "no kind", items(api.Item{Kind: k, Name: "f", Result: mk(api.TInt), Return: number(0)}), false)
	}
}

// notZero has values for each field of a Type, an Expr, a Stmt, an Item.
func notZero() map[string][]any {
	block := block()
	return map[string][]any{
		"Int":    {int64(1), int64(-1)},
		"Name":   {"a", "A", "*", "let"},
		"Second": {"a", "A"},
		"Names":  {[]string{"a"}, []string{""}},
		"Place":  {place("x"), place("x.a"), api.Place{Path: []string{"a"}}, api.Place{Path: []string{"a", "b"}}},
		"Type":   {mk(api.TInt), api.Type{Name: "A"}, api.Type{Args: []api.Type{{}}}},
		"Result": {mk(api.TInt), api.Type{Name: "A"}, api.Type{Args: []api.Type{{}}}},
		"Exprs":  {[]api.Expr{number(1)}, []api.Expr{{}}},
		"Return": {number(0), api.Expr{Int: 1}, api.Expr{Name: "a"}, api.Expr{Second: "a"}, api.Expr{Place: place("x")}, api.Expr{Args: []api.Expr{{}}}},
		"Body":   {[]api.Stmt{block}, []api.Stmt{{}}},
		"Else":   {[]api.Stmt{block}, []api.Stmt{{}}},
		"Arms":   {[]api.Arm{{Variant: "A"}}, []api.Arm{{}}},
		"Fields": {fields(mk(api.TInt), "a"), []api.Field{{}}},
	}
}

// P3.1: a field that doesn't count must be zero; At may be anything, and a list that is empty is zero.
func checkFields[T any](t *testing.T, sample T, counts string, isWhole func(T) bool) {
	t.Helper()
	tried := sample
	v := reflect.ValueOf(&tried).Elem()
	for i := range v.NumField() {
		name := v.Type().Field(i).Name
		reset := func() { v.Field(i).Set(reflect.ValueOf(sample).Field(i)) }
		switch {
		case name == "Kind" || name == "Op" || strings.Contains(" "+counts+" ", " "+name+" "):
			continue
		case name == "At":
			v.Field(i).SetInt(-5)
			if !isWhole(tried) {
				t.Errorf("with an At not whole: %.300s", written(tried))
			}
			reset()
			continue
		}
		args := notZero()[name]
		if name == "Args" && v.Type().Name() == "Type" {
			args = []any{[]api.Type{mk(api.TInt)}, []api.Type{{}}}
		} else if name == "Args" {
			args = []any{[]api.Expr{number(1)}, []api.Expr{{}}, []api.Expr{number(1), number(1)}}
		}
		for _, x := range args {
			v.Field(i).Set(reflect.ValueOf(x))
			if isWhole(tried) {
				t.Errorf("with %s whole: %.300s", name, written(tried))
			}
		}
		if len(args) == 0 {
			t.Error("nothing is tried for", name)
		}
		if v.Field(i).Kind() == reflect.Slice {
			v.Field(i).Set(reflect.MakeSlice(v.Field(i).Type(), 0, 3))
			if !isWhole(tried) {
				t.Errorf("with an empty %s not whole: %.300s", name, written(tried))
			}
		}
		reset()
	}
}

func TestFieldsThatDontCount(t *testing.T) {
	for _, k := range typeKinds() {
		checkFields(t, k.sample, k.counts, WholeType)
	}
	for _, k := range exprKinds() {
		checkFields(t, k.sample, k.counts, func(e api.Expr) bool { return WholeExpr(call("f", e)) })
	}
	for _, k := range stmtKinds() {
		checkFields(t, k.sample, k.counts, func(s api.Stmt) bool { return Whole(main(s)) })
	}
	for _, k := range itemKinds() {
		checkFields(t, k.sample, k.counts, func(x api.Item) bool { return Whole(items(x)) })
	}
}

// P3.1: a struct's and an enum's Return is zero whatever its At.
func TestAtOfNoReturn(t *testing.T) {
	for _, k := range itemKinds() {
		k.sample.Return.At = 9
		checkProgram(t, "an item", items(k.sample), true)
	}
}

// P3.1: lent expressions stand behind let, in calls and in spawns' lists, nowhere else.
func TestLent(t *testing.T) {
	for _, op := range []uint8{api.EShare, api.EMut} {
		lent := at(op, "x.a.*")
		checkExpr(t, "alone", lent, false)
		checkProgram(t, "let", main(let("y", lent)), true)
		checkProgram(t, "spawn", main(spawn("a b c", lent, number(1), lent)), true)
		checkExpr(t, "call", call("f", number(1), lent, lent), true)
		checkExpr(t, "call in a call", call("f", call("g", lent)), true)
		checkProgram(t, "Return", items(api.Item{Kind: api.IFn, Name: "f", Result: mk(api.TInt), Return: lent}), false)
		for _, k := range exprKinds() {
			for i := range k.sample.Args {
				e := apart(k.sample)
				e.Args[i] = lent
				checkExpr(t, "in an expression", e, k.op == api.ECall)
				checkProgram(t, "in one behind let", main(let("y", e)), k.op == api.ECall)
				checkExpr(t, "in one in a call", call("f", e), k.op == api.ECall)
			}
		}
		for _, k := range stmtKinds() {
			for i := range k.sample.Exprs {
				s := apart(k.sample)
				s.Exprs[i] = lent
				checkProgram(t, "in a statement", main(s), k.op == api.SLet || k.op == api.SSpawn)
			}
		}
		for _, wrong := range []api.Expr{{Op: op}, at(op, "X"), at(op, "x", number(1)), {Op: op, Place: place("x"), Int: 1}, {Op: op, Place: place("x"), Name: "f"}} {
			checkProgram(t, "a wrong one", main(let("y", wrong)), false)
		}
	}
}

// P3.1: what a list may have at most.
func TestLists(t *testing.T) {
	names := []string{"", "a", "a b c d e f", "a b c d e f g"}
	great := []string{"", "A", "A B C D E F", "A B C D E F G"}
	for i, n := range []int{0, 1, 6, 7} {
		ok := n <= 6
		args := slices.Repeat([]api.Expr{number(1)}, n)
		checkExpr(t, "a call", call("f", args...), ok)
		checkExpr(t, "a struct", made("S", names[i], args...), ok)
		checkExpr(t, "an enum", variant("E", "A", args...), n <= 1)
		checkProgram(t, "take", main(api.Stmt{Op: api.STake, Name: "S", Names: strings.Fields(names[i]), Exprs: []api.Expr{number(1)}}), ok)
		checkProgram(t, "spawn", main(spawn(names[i], args...)), ok)
		checkProgram(t, "match", main(api.Stmt{Op: api.SMatch, Name: "x", Second: "E", Arms: slices.Repeat([]api.Arm{{Variant: "A"}}, n)}), ok)
		checkProgram(t, "struct", items(api.Item{Kind: api.IStruct, Name: "S", Fields: fields(mk(api.TInt), names[i])}), ok)
		checkProgram(t, "enum", items(api.Item{Kind: api.IEnum, Name: "E", Fields: fields(mk(api.TInt), great[i])}), ok)
		checkProgram(t, "enum without payloads", items(api.Item{Kind: api.IEnum, Name: "E", Fields: fields(api.Type{}, great[i])}), ok)
		checkProgram(t, "fn", items(api.Item{Kind: api.IFn, Name: "f", Fields: fields(mk(api.TInt), names[i]), Result: mk(api.TInt), Return: number(0)}), ok)
	}
	many := slices.Repeat([]api.Stmt{block()}, 1000)
	checkProgram(t, "blocks have any number of statements", main(append(many, block(many...))...), true)
	for n := range 5 {
		args := slices.Repeat([]api.Expr{number(1)}, n)
		types := slices.Repeat([]api.Type{mk(api.TInt)}, n)
		for _, k := range exprKinds() {
			k.sample.Args = args
			checkExpr(t, "an expression", k.sample, modelWholeExpr(k.sample))
		}
		for _, k := range typeKinds() {
			k.sample.Args = types
			checkType(t, "a type", k.sample, modelWholeType(k.sample))
		}
		for _, k := range stmtKinds() {
			k.sample.Exprs = args
			checkProgram(t, "a statement", main(k.sample), stmtLetter(k.sample) == "s")
		}
	}
}

// P3.1: as many names as expressions.
func TestPairs(t *testing.T) {
	one := number(1)
	for _, c := range []struct {
		names string
		args  []api.Expr
		want  bool
	}{
		{"", nil, true}, {"a", nil, false}, {"", []api.Expr{one}, false}, {"a b", []api.Expr{one}, false},
		{"a", []api.Expr{one, one}, false}, {"a a", []api.Expr{one, one}, true}, {"a *", []api.Expr{one, one}, false},
		{"a B", []api.Expr{one, one}, false}, {"a let", []api.Expr{one, one}, false},
	} {
		checkExpr(t, "a struct", made("S", c.names, c.args...), c.want)
		checkProgram(t, "a spawn", main(spawn(c.names, c.args...)), c.want)
	}
	e := made("S", "a", one)
	e.Place.Name = "x"
	checkExpr(t, "a struct whose Place has a Name", e, false)
	e = made("S", "")
	e.Place.Name = "x"
	checkExpr(t, "a struct whose Place has a Name alone", e, false)
}

func TestNumbers(t *testing.T) {
	for n, want := range map[int64]bool{-1 << 63: false, -1: false, 0: true, 1: true, 1<<63 - 1: true} {
		checkExpr(t, "EInt", number(n), want)
	}
	for n, want := range map[int64]bool{-1 << 63: false, -1: false, 0: true, 1: true, 2: false, 1<<63 - 1: false} {
		checkExpr(t, "EBool", api.Expr{Op: api.EBool, Int: n}, want)
	}
	for n, want := range map[int64]bool{-1: false, 0: false, 1: true, 2: true, 8: true, 9: false, 1 << 40: false} {
		checkProgram(t, "SChan", main(api.Stmt{Op: api.SChan, Type: mk(api.TInt), Int: n, Name: "s", Second: "r"}), want)
	}
}

// P3.1: an enum's field, a match's arm may be without.
func TestWithAndWithout(t *testing.T) {
	zero, half := api.Type{}, api.Type{Name: "S"}
	for _, c := range []struct {
		of   api.Type
		want bool
	}{{mk(api.TInt), true}, {zero, false}, {half, false}, {mk(api.TBox), false}, {api.Type{Args: []api.Type{mk(api.TInt)}}, false}} {
		isZero := reflect.DeepEqual(c.of, zero)
		checkProgram(t, "a struct's field", items(api.Item{Kind: api.IStruct, Name: "S", Fields: fields(c.of, "a")}), c.want)
		checkProgram(t, "an enum's field", items(api.Item{Kind: api.IEnum, Name: "E", Fields: fields(c.of, "A")}), c.want || isZero)
		checkProgram(t, "a parameter", items(api.Item{Kind: api.IFn, Name: "f", Fields: fields(c.of, "a"), Result: mk(api.TInt), Return: number(0)}), c.want)
		checkProgram(t, "a result", items(api.Item{Kind: api.IFn, Name: "f", Result: c.of, Return: number(0)}), c.want)
		checkProgram(t, "a channel's type", main(api.Stmt{Op: api.SChan, Type: c.of, Int: 1, Name: "s", Second: "r"}), c.want)
		checkType(t, "of a Box", mk(api.TBox, c.of), c.want)
	}
	empty := api.Type{Args: []api.Type{}}
	checkProgram(t, "an enum's field", items(api.Item{Kind: api.IEnum, Name: "E", Fields: fields(empty, "A")}), true)
	for _, c := range []struct {
		arm  api.Arm
		want bool
	}{
		{api.Arm{Variant: "A"}, true}, {api.Arm{Variant: "A", Name: "y"}, true}, {api.Arm{Variant: "A", Name: "Y"}, false},
		{api.Arm{Variant: "A", Name: "let"}, false}, {api.Arm{Variant: "A", Name: "*"}, false}, {api.Arm{Variant: "a"}, false},
		{api.Arm{Variant: "Box"}, false}, {api.Arm{Name: "y"}, false}, {api.Arm{}, false},
		{api.Arm{Variant: "A", Body: []api.Stmt{block()}}, true}, {api.Arm{Variant: "A", Body: []api.Stmt{{}}}, false},
	} {
		checkProgram(t, "an arm", main(api.Stmt{Op: api.SMatch, Name: "x", Second: "E", Arms: []api.Arm{{Variant: "B"}, c.arm}}), c.want)
	}
	checkProgram(t, "a function without a Return", items(api.Item{Kind: api.IFn, Name: "f", Result: mk(api.TInt)}), false)
}

// P3.1: a word, or what is no word at all, stands nowhere where a name must be.
func TestNames(t *testing.T) {
	p := everything()
	n := 0
	for _, s := range spots(&p) {
		if s.value.Kind() != reflect.String {
			continue
		}
		n++
		for _, x := range []string{"let", "int", "Box", "Receiver", "_", "a b", "a.b", "9", "**", "\xff", strings.Repeat("a", 17), strings.Repeat("A", 17)} {
			if s.with(reflect.ValueOf(x), func() bool { return Whole(p) }) {
				t.Errorf("with %q at %s whole", x, s.name)
			}
		}
	}
	if n < 1000 || !Whole(p) {
		t.Error(n, Whole(p))
	}
}

func TestPlaces(t *testing.T) {
	for s, want := range map[string]bool{
		"x": true, "x.a": true, "x.*": true, "x.*.*": true, "x.a.b.*.c": true, "": false, "*": false, "X": false, "let": false,
		"x.X": false, "x.let": false, "x.": false, ".a": false, "x..a": false, "x.**": false, "x.a.Box": false, "x.9": false,
		"abcdefghijklmnop": true, "abcdefghijklmnopq": false, "x.abcdefghijklmnop": true, "x.abcdefghijklmnopq": false,
	} {
		if WholePlace(place(s)) != want {
			t.Errorf("%q: %v", s, !want)
		}
		checkExpr(t, "a use of "+s, at(api.EUse, s), want)
		checkProgram(t, "a let of "+s, main(let("y", at(api.EMut, s))), want)
		checkProgram(t, "an assignment to "+s, main(api.Stmt{Op: api.SAssign, Place: place(s), Exprs: []api.Expr{number(1)}}), want)
		checkProgram(t, "a lock of "+s, main(api.Stmt{Op: api.SLock, Place: place(s), Name: "g"}), want)
	}
	if WholePlace(api.Place{}) || !WholePlace(api.Place{Name: "x", Path: []string{}}) {
		t.Error("no place, no steps")
	}
	for n, want := range map[int]bool{0: true, 39: true, 40: true, 41: false, 100: false} {
		if WholePlace(steps(n)) != want {
			t.Errorf("%d steps: %v", n, !want)
		}
		checkExpr(t, "a use", api.Expr{Op: api.EUse, Place: steps(n)}, want)
		checkProgram(t, "a lock", main(api.Stmt{Op: api.SLock, Place: steps(n), Name: "g"}), want)
	}
}

// deepType is one of so many levels, deepExpr and deepStmt likewise.
func deepType(n int) api.Type {
	t := mk(api.TInt)
	for range n - 1 {
		t = mk(api.TBox, t)
	}
	return t
}

func deepExpr(n int) api.Expr {
	e := number(1)
	for range n - 1 {
		e = ex(api.EAdd, number(2), e)
	}
	return e
}

func deepStmt(n int, around func(l ...api.Stmt) api.Stmt) api.Stmt {
	s := around()
	for range n - 1 {
		s = around(block(), s)
	}
	return s
}

// P3.1: 40 levels may be, 41 may not; a program and an item are a level each.
func TestLevels(t *testing.T) {
	if !WholeType(deepType(40)) || WholeType(deepType(41)) || !WholeExpr(deepExpr(40)) || WholeExpr(deepExpr(41)) {
		t.Error("40 and 41 levels")
	}
	matches := func(l ...api.Stmt) api.Stmt {
		return api.Stmt{Op: api.SMatch, Name: "x", Second: "E", Arms: []api.Arm{{Variant: "A"}, {Variant: "B", Body: l}}}
	}
	elses := func(l ...api.Stmt) api.Stmt {
		return api.Stmt{Op: api.SIf, Exprs: []api.Expr{number(1)}, Else: l}
	}
	fn := func(f api.Type, result api.Type, e api.Expr) api.Program {
		return items(api.Item{Kind: api.IFn, Name: "f", Fields: fields(f, "a"), Result: result, Return: e})
	}
	small, one := mk(api.TInt), number(1)
	for _, c := range []struct {
		what   string
		levels int
		make   func(n int) api.Program
	}{
		{"statements in blocks", 38, func(n int) api.Program { return main(deepStmt(n, block)) }},
		{"statements in arms", 38, func(n int) api.Program { return main(deepStmt(n, matches)) }},
		{"statements in elses, with a condition", 37, func(n int) api.Program { return main(deepStmt(n, elses)) }},
		{"an expression that is done", 37, func(n int) api.Program { return main(do(deepExpr(n))) }},
		{"a channel's type", 37, func(n int) api.Program {
			return main(api.Stmt{Op: api.SChan, Type: deepType(n), Int: 1, Name: "s", Second: "r"})
		}},
		{"a parameter's type", 38, func(n int) api.Program { return fn(deepType(n), small, one) }},
		{"a result's type", 38, func(n int) api.Program { return fn(small, deepType(n), one) }},
		{"a Return", 38, func(n int) api.Program { return fn(small, small, deepExpr(n)) }},
		{"a struct's field", 38, func(n int) api.Program {
			return items(api.Item{Kind: api.IStruct, Name: "S", Fields: fields(deepType(n), "a")})
		}},
		{"an enum's field", 38, func(n int) api.Program {
			return items(api.Item{Kind: api.IEnum, Name: "E", Fields: fields(deepType(n), "A")})
		}},
	} {
		most, over := c.make(c.levels), c.make(c.levels+1)
		checkProgram(t, c.what, most, true)
		checkProgram(t, c.what, over, false)
		if Depth(most) != 40 || Depth(over) != 41 {
			t.Error(c.what, Depth(most), Depth(over))
		}
	}
}

// P3.1: what leads back to itself is deeper than anything that is whole.
func TestEndless(t *testing.T) {
	types := []api.Type{mk(api.TBox)}
	types[0].Args = types
	exprs := []api.Expr{ex(api.EAdd), ex(api.EAdd)}
	exprs[0].Args, exprs[1].Args = exprs, exprs
	body := []api.Stmt{block(), block()}
	body[0].Body, body[1].Body = body, body
	if WholeType(types[0]) || WholeExpr(exprs[0]) || Whole(main(body...)) {
		t.Error("whole")
	}
}

func TestItems(t *testing.T) {
	small := main().Items[0]
	checkProgram(t, "30", items(slices.Repeat([]api.Item{small}, 30)...), true)
	checkProgram(t, "31", items(slices.Repeat([]api.Item{small}, 31)...), false)
	checkProgram(t, "a wrong one behind others", items(small, small, api.Item{}), false)
	checkProgram(t, "nil and empty", api.Program{Items: []api.Item{}}, true)
}

// P3.1: one thing that isn't whole, anywhere, and the tree isn't: each spot of each kind, held against the second judge.
func TestEachSpot(t *testing.T) {
	for i, p := range kindPrograms() {
		if !Whole(p) {
			t.Errorf("%d isn't whole", i)
		}
		for _, s := range spots(&p) {
			for _, x := range s.others() {
				if want := s.with(x, func() bool { return modelWhole(p) }); s.with(x, func() bool { return Whole(p) }) != want {
					t.Errorf("%d with %v at %s: %v", i, x, s.name, !want)
				}
			}
		}
	}
}

// kindPrograms are whole programs, one for each kind.
func kindPrograms() []api.Program {
	var out []api.Program
	for _, k := range typeKinds() {
		out = append(out, items(api.Item{Kind: api.IStruct, Name: "S", Fields: fields(mk(api.TCell, k.sample), "a")}))
	}
	for _, k := range exprKinds() {
		out = append(out, main(let("x", k.sample)), main(do(call("f", k.sample))))
	}
	for _, k := range stmtKinds() {
		out = append(out, main(block(k.sample)))
	}
	for _, k := range itemKinds() {
		out = append(out, items(k.sample))
	}
	for i := range out {
		out[i] = apart(out[i])
	}
	return out
}
