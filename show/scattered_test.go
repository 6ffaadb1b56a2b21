package show

import (
	"math"
	"reflect"
	"strings"
	"testing"

	"weftway/api"
	"weftway/lex"
	"weftway/tree"
)

// dice throws the same numbers each time.
type dice uint64

func (d *dice) below(n int) int {
	x := *d
	x ^= x << 13
	x ^= x >> 7
	x ^= x << 17
	*d = x
	return int(x>>11) % n
}

// pick is one of the words, that have a blank between any two.
func (d *dice) pick(words string) string {
	l := strings.Fields(words)
	return l[d.below(len(l))]
}

func (d *dice) name() string { return d.pick("a b x y longest_name_9Zz") }

func (d *dice) typeName() string { return d.pick("A B S E Boxes") }

// many are up to most of what one makes.
func many[T any](d *dice, most int, one func() T) []T {
	var out []T
	for range d.below(most + 1) {
		out = append(out, one())
	}
	return out
}

func (d *dice) place() api.Place {
	return api.Place{Name: d.name(), Path: many(d, 3, func() string { return d.pick("* a b *") })}
}

func (d *dice) typed(levels int) api.Type {
	kind := uint8(1 + d.below(14))
	switch {
	case kind == api.TNamed:
		return named(d.typeName())
	case kind <= api.TUnit || kind == api.TAtomic:
		return mk(kind)
	case levels == 0:
		return mk(api.TInt)
	}
	return mk(kind, d.typed(levels-1))
}

// expr is a whole one that isn't lent.
func (d *dice) expr(levels int) api.Expr {
	e := api.Expr{Op: uint8(1 + d.below(36)), At: d.below(99)}
	if levels == 0 {
		e.Op = uint8(1 + d.below(4))
	}
	inner := func() api.Expr { return d.expr(levels - 1) }
	one, two := signOps()
	switch op := e.Op; {
	case op == api.EInt:
		e.Int = []int64{0, 7, 12, math.MaxInt64}[d.below(4)]
	case op == api.EBool:
		e.Int = int64(d.below(2))
	case op == api.EShare || op == api.EMut:
		e.Op = two[d.below(9)]
		e.Args = []api.Expr{inner(), inner()}
	case op == api.ECall:
		e.Name = d.name()
		e.Args = many(d, 6, func() api.Expr { return d.lent(levels - 1) })
	case op == api.EStruct:
		e.Name = d.typeName()
		e.Args = many(d, 6, inner)
		for range e.Args {
			e.Place.Path = append(e.Place.Path, d.name())
		}
	case op == api.EEnum:
		e.Name, e.Second = d.typeName(), d.typeName()
		e.Args = many(d, 1, inner)
	case op >= api.EAdd && op <= api.EOr:
		e.Args = []api.Expr{inner(), inner()}
	case op == one[0] || op == one[1] || strings.Contains(formOf(op), "e"):
		e.Args = []api.Expr{inner()}
	}
	if strings.Contains(formOf(e.Op), "p") {
		e.Place = d.place()
	}
	return e
}

// formOf says what a kind has: p of a place, e of one expression.
func formOf(op uint8) string {
	switch op {
	case api.EUse, api.EGet, api.EClone, api.ELoad, api.ERecv:
		return "p"
	case api.ESet, api.EStore, api.EFetch, api.ESend:
		return "pe"
	case api.EBox, api.EUnbox, api.ECell, api.ERc, api.EArc, api.EMutex, api.EOpen, api.EAtomic:
		return "e"
	}
	return ""
}

func (d *dice) lent(levels int) api.Expr {
	switch d.below(4) {
	case 0:
		return api.Expr{Op: api.EShare, Place: d.place()}
	case 1:
		return api.Expr{Op: api.EMut, Place: d.place()}
	}
	return d.expr(levels)
}

func (d *dice) body(levels int) []api.Stmt {
	if levels == 0 {
		return nil
	}
	return many(d, 3, func() api.Stmt { return d.statement(levels - 1) })
}

func (d *dice) statement(levels int) api.Stmt {
	e := d.expr(min(levels, 3))
	var s api.Stmt
	switch uint8(1 + d.below(13)) {
	case api.SLet:
		s = let(d.name(), d.lent(levels))
	case api.STake:
		s = take(d.typeName(), strings.Join(many(d, 6, d.name), " "), e)
	case api.SAssign:
		s = api.Stmt{Op: api.SAssign, Place: d.place(), Exprs: []api.Expr{e}}
	case api.SDo:
		s = do(e)
	case api.SDrop:
		s = api.Stmt{Op: api.SDrop, Name: d.name()}
	case api.SIf:
		s = choose(e, d.body(levels), d.body(levels))
	case api.SWhile:
		s = while(e, d.body(levels)...)
	case api.SMatch:
		s = match(d.name(), d.typeName(), many(d, 6, func() api.Arm { return d.arm(levels) })...)
	case api.SScope:
		s = scope(d.body(levels)...)
	case api.SSpawn:
		names := many(d, 6, d.name)
		s = spawn(strings.Join(names, " "), nil, d.body(levels)...)
		for range names {
			s.Exprs = append(s.Exprs, d.lent(min(levels, 2)))
		}
	case api.SLock:
		s = api.Stmt{Op: api.SLock, Place: d.place(), Name: d.name(), Body: d.body(levels)}
	case api.SChan:
		s = channel(d.typed(3), int64(1+d.below(8)), d.name(), d.name())
	default:
		s = block(d.body(levels)...)
	}
	s.At = d.below(99)
	return s
}

func (d *dice) arm(levels int) api.Arm {
	a := api.Arm{Variant: d.typeName(), Body: d.body(levels)}
	if d.below(2) == 0 {
		a.Name = d.name()
	}
	return a
}

func (d *dice) item() api.Item {
	fields := many(d, 6, func() api.Field { return field(d.name(), d.typed(3)) })
	switch d.below(4) {
	case 0:
		return structure(d.typeName(), fields...)
	case 1:
		for i := range fields {
			fields[i].Name = d.typeName()
			if d.below(2) == 0 {
				fields[i].Type = api.Type{}
			}
		}
		return enum(d.typeName(), fields...)
	}
	return function(d.name(), fields, d.typed(4), d.expr(3), d.body(4)...)
}

func (d *dice) program() api.Program {
	return api.Program{Items: many(d, 5, d.item)}
}

// checkForm asks that the text is tokens, one blank between any two, and a byte 10 behind each item.
func checkForm(t *testing.T, s string) {
	t.Helper()
	for line := range strings.Lines(s) {
		item, ended := strings.CutSuffix(line, "\n")
		if !ended {
			t.Errorf("no end: %.300q", line)
		}
		if len(item) > api.MaxText {
			continue
		}
		tokens, _, e := lex.All(item)
		if e == api.ErrFull {
			continue
		}
		var texts []string
		for _, x := range tokens {
			texts = append(texts, x.Text)
		}
		if e != api.OK || strings.Join(texts, " ") != item {
			t.Errorf("%v: %.300q is %.300q", e, item, texts)
		}
	}
}

// P4.1, P4.3, P4.4: scattered programs are read back from their texts, which are those of their items.
func TestScattered(t *testing.T) {
	d := dice(5)
	long := 0
	for range 2000 {
		p := d.program()
		before := tree.Copy(p)
		s := Program(p)
		if !tree.Whole(p) || s == "" != (len(p.Items) == 0) {
			t.Fatalf("whole is %v: %.300q", tree.Whole(p), s)
		}
		if got, ok := readProgram(s); !ok || !tree.Same(got, p) {
			t.Errorf("%.600q is read as %.600q, %v", s, Program(got), ok)
		}
		checkForm(t, s)
		all := ""
		for _, x := range p.Items {
			all += Program(items(x))
		}
		if all != s {
			t.Errorf("%.300q, its items %.300q", s, all)
		}
		if Program(p) != s || Program(tree.Erase(p)) != s {
			t.Errorf("two texts: %.300q", s)
		}
		if !reflect.DeepEqual(p, before) {
			t.Errorf("changed: %.300q", s)
		}
		if len(s) > 2000 {
			long++
		}
	}
	if long < 100 {
		t.Error("so many were long:", long)
	}
}

// P4.2, P4.3: types, places, expressions by themselves.
func TestScatteredAlone(t *testing.T) {
	d := dice(9)
	for range 3000 {
		x, y, e := d.typed(d.below(40)), d.place(), d.expr(3)
		if got, ok := readType(Type(x)); !ok || !tree.SameType(got, x) {
			t.Errorf("%q", Type(x))
		}
		if got, ok := readPlace(Place(y)); !ok || !tree.SameExpr(api.Expr{Place: got}, api.Expr{Place: y}) {
			t.Errorf("%q", Place(y))
		}
		checkReadBack(t, e)
		if inside := Program(main(do(e))); inside != "fn main ( ) -> int { "+Expr(e)+" ; 0 }\n" {
			t.Errorf("%.300q", inside)
		}
	}
}

// P4.3: of programs made of few things many are the same, and those alone have one text.
func TestOneForm(t *testing.T) {
	d := dice(3)
	type shown struct {
		p api.Program
		s string
	}
	var seen []shown
	same := 0
	for range 400 {
		p := main(d.statement(1))
		s := Program(p)
		for _, x := range seen {
			if (x.s == s) != tree.Same(x.p, p) || (x.s == s) != tree.Same(p, x.p) {
				t.Errorf("the same is %v: %q and %q", tree.Same(x.p, p), x.s, s)
			}
			if x.s == s {
				same++
			}
		}
		seen = append(seen, shown{p, s})
	}
	if same < 20 {
		t.Error("so many were the same:", same)
	}
}

// change puts something else somewhere in what v has, so many places on, and tells how many places are left to go.
func change(v reflect.Value, left int, d *dice) int {
	switch v.Kind() {
	case reflect.Struct:
		for i := range v.NumField() {
			left = change(v.Field(i), left, d)
		}
		return left
	case reflect.Slice:
		for i := range v.Len() {
			left = change(v.Index(i), left, d)
		}
		if left == 0 {
			v.Set(reflect.AppendSlice(reflect.MakeSlice(v.Type(), d.below(2), 9), v))
		}
	case reflect.String:
		if left == 0 {
			v.SetString([]string{"", "q", "Q", "let", "Box", "*", "_"}[d.below(7)])
		}
	case reflect.Uint8:
		if left == 0 {
			v.SetUint(uint64(d.below(40)))
		}
	default:
		if left == 0 {
			v.SetInt(int64(d.below(11) - 1))
		}
	}
	return left - 1
}

// P4.1: of programs that were changed somewhere those that are whole have a text, and it says them; all others have the empty one.
func TestBroken(t *testing.T) {
	d := dice(13)
	whole, broken := 0, 0
	for range 6000 {
		p := main(d.body(3)...)
		v := reflect.ValueOf(&p).Elem()
		places := -change(v, -1, &d) - 1
		change(v, d.below(places), &d)
		s := Program(p)
		if !tree.Whole(p) {
			broken++
			if s != "" {
				t.Errorf("not whole: %.300q", s)
			}
			continue
		}
		whole++
		if got, ok := readProgram(s); !ok || !tree.Same(got, p) {
			t.Errorf("%.300q is read as %.300q, %v", s, Program(got), ok)
		}
	}
	if whole < 500 || broken < 500 {
		t.Error(whole, broken)
	}
}
