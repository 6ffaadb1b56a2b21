package verdict

import (
	"reflect"
	"slices"
	"strings"
	"testing"

	"weftway/api"
	"weftway/tree"
)

// eachPart hands on what a struct or a list has.
func eachPart(v reflect.Value, each func(reflect.Value)) {
	switch v.Kind() {
	case reflect.Struct:
		for i := range v.NumField() {
			each(v.Field(i))
		}
	case reflect.Slice:
		for i := range v.Len() {
			each(v.Index(i))
		}
	}
}

// roomy puts room behind each list, with zero values in it.
func roomy(v reflect.Value) {
	eachPart(v, roomy)
	if v.Kind() == reflect.Slice && v.Len() > 0 {
		longer := reflect.MakeSlice(v.Type(), v.Len()+3, v.Len()+3)
		reflect.Copy(longer, v)
		v.Set(longer.Slice(0, v.Len()))
	}
}

func untouched(t *testing.T, v reflect.Value) {
	t.Helper()
	if v.Kind() == reflect.Slice && v.Len() > 0 {
		for i := v.Len(); i < v.Cap(); i++ {
			if !v.Slice(0, v.Cap()).Index(i).IsZero() {
				t.Errorf("behind %v", v)
			}
		}
	}
	eachPart(v, func(x reflect.Value) { untouched(t, x) })
}

// texts are of all stages, without marks: of each of them two planted items of one chapter, all that are right, and some that have to do with what the chapters behind it ask.
func texts(t *testing.T) []string {
	t.Helper()
	d := dice(165)
	var all []string
	for i, chapter := range chapters() {
		items := append(planted(0), shuffled(&d, planted(chapter))[:2]...)
		for _, behind := range chapters()[i+1:] {
			items = append(items, pick(&d, planted(behind)...))
		}
		all = append(all, bare(t, numbered(&d, items)))
	}
	return append(all, bare(t, numbered(&d, planted(0))), "", "fn main() -> int { 0 }")
}

func bare(t *testing.T, s string) string {
	t.Helper()
	text, _, _ := marked(t, s)
	return text
}

// P0.4: nothing that is handed in is changed, the room behind it neither; asked again all is the same.
func TestHandedIn(t *testing.T) {
	stages := map[int]int{}
	for _, s := range texts(t) {
		p := read(t, s)
		want, stage := Check(read(t, s)), Stage(read(t, s))
		stages[stage]++
		roomy(reflect.ValueOf(&p).Elem())
		before := tree.Copy(p)
		for range 2 {
			judged(t, s, p, want, stage)
		}
		if !reflect.DeepEqual(p, before) {
			t.Error("changed", s)
		}
		untouched(t, reflect.ValueOf(p))
	}
	if len(stages) != 6 {
		t.Error(stages)
	}
}

// P0.4: what is answered is in memory of its own, the room behind it too.
func TestAnswerApart(t *testing.T) {
	for _, s := range texts(t) {
		p := read(t, s)
		got, other := Check(p), Check(p)
		want := slices.Clone(other)
		for i := range got[:cap(got)] {
			got[:cap(got)][i] = api.Fault{Err: 99, At: -1}
		}
		if !slices.Equal(other, want) || !slices.Equal(Check(p), want) {
			t.Error("changed with the answer", s)
		}
	}
}

// P0.4: lists that are nil and empty ones are the same.
func TestEmptyLists(t *testing.T) {
	for _, s := range texts(t) {
		p := read(t, s)
		q := tree.Copy(p)
		var each func(v reflect.Value)
		each = func(v reflect.Value) {
			if v.Kind() == reflect.Slice && v.IsNil() {
				v.Set(reflect.MakeSlice(v.Type(), 0, 2))
			}
			eachPart(v, each)
		}
		each(reflect.ValueOf(&q).Elem())
		judged(t, s, q, Check(p), Stage(p))
	}
}

// P16.1, P16.2: of a program that isn't whole chapter 6 tells ErrArg.
func TestNotWhole(t *testing.T) {
	right := read(t, "fn main() -> int { 0 }")
	with := func(change func(main *api.Item)) api.Program {
		p := tree.Copy(right)
		change(&p.Items[0])
		return p
	}
	deep := api.Expr{Op: api.EInt}
	for range 60000 {
		deep = api.Expr{Op: api.ENeg, Args: []api.Expr{deep}}
	}
	for i, p := range []api.Program{
		{Items: []api.Item{{}}}, {Items: slices.Repeat(right.Items, api.MaxItems+1)}, with(func(x *api.Item) { x.Name = "let" }), with(func(x *api.Item) { x.Kind = 9 }), with(func(x *api.Item) { x.Return = api.Expr{} }), with(func(x *api.Item) { x.Return.Int = -1 }),
		with(func(x *api.Item) { x.Body = []api.Stmt{{Op: 99}} }), with(func(x *api.Item) { x.Body = []api.Stmt{{Op: api.SDrop, Name: "*"}} }), with(func(x *api.Item) { x.Result = api.Type{Kind: api.TBox} }), with(func(x *api.Item) { x.Return = deep }),
		with(func(x *api.Item) { x.Fields = []api.Field{{Name: "a", Type: api.Type{Kind: api.TRef}}} }), with(func(x *api.Item) { x.Body = []api.Stmt{{Op: api.SSpawn, Names: []string{"a"}}} }),
	} {
		if tree.Whole(p) {
			t.Fatal(i)
		}
		judged(t, "not whole", p, []api.Fault{{Err: api.ErrArg}}, 6)
	}
	judged(t, "no program", api.Program{}, []api.Fault{{Err: api.ErrMain}}, 6)
}

// P0.1, P16.5: at trees that may be no programs nothing panics, and what is told fits together.
func TestSpoiled(t *testing.T) {
	d := dice(166)
	l := texts(t)
	stages := map[int]int{}
	for i := range 4000 {
		s := l[i%(len(l)-2)]
		p := read(t, s)
		for range 1 + d.below(2) {
			spoil(&d, reflect.ValueOf(&p).Elem())
		}
		stage := Stage(p)
		stages[stage]++
		judged(t, s, p, togetherOf(p, stage), stage)
		for _, chapter := range chapters() {
			if n := len(tellsOf(p, chapter)); (chapter < stage || stage == 0) && n > 0 || chapter == stage && n == 0 {
				t.Fatalf("%s\nchapter %d: %d, stage %d", s, chapter, n, stage)
			}
		}
	}
	for _, stage := range append(chapters(), 0) {
		if stages[stage] < 50 {
			t.Error(stages)
		}
	}
}

// spoil changes one thing, somewhere in a tree.
func spoil(d *dice, v reflect.Value) {
	for d.below(12) > 0 && (v.Kind() == reflect.Struct || v.Kind() == reflect.Slice && v.Len() > 0) {
		if v.Kind() == reflect.Struct {
			v = v.Field(d.below(v.NumField()))
		} else {
			v = v.Index(d.below(v.Len()))
		}
	}
	switch v.Kind() {
	case reflect.Int, reflect.Int64:
		v.SetInt(int64(d.below(9) - 2))
	case reflect.Uint8:
		v.SetUint(uint64(d.below(40)))
	case reflect.String:
		v.SetString(pick(d, "", "a", "b", "main", "*"))
	case reflect.Struct:
		v.SetZero()
	case reflect.Slice:
		switch n := v.Len(); {
		case n == 0:
			v.Set(reflect.MakeSlice(v.Type(), 1, 1))
		case d.below(2) == 0:
			v.Set(v.Slice(0, d.below(n)))
		default:
			v.Set(reflect.Append(v.Slice3(0, n, n), v.Index(d.below(n))))
		}
	}
}

// P0.1: very long programs, deep ones, and the greatest that a text may be.
func TestLarge(t *testing.T) {
	const long = 30000
	p := read(t, "fn main() -> int { let v = box(1); drop v; scope { spawn (x = rc(1)) { } } 0 }")
	drop, scope := p.Items[0].Body[1], p.Items[0].Body[2]
	p.Items[0].Body = slices.Concat(p.Items[0].Body[:1], slices.Repeat([]api.Stmt{drop}, long), []api.Stmt{scope})
	if l := Check(p); !slices.Equal(l, []api.Fault{{Err: api.ErrUninit, At: drop.At}, {Err: api.ErrSend, At: scope.Body[0].Exprs[0].At}}) || Stage(p) != 14 {
		t.Error(len(l), Stage(p))
	}
	p.Items[0].Body = slices.Concat(p.Items[0].Body[:1], slices.Repeat([]api.Stmt{scope}, long), p.Items[0].Body[1:3])
	if l := Check(p); len(l) != long+1 || l[0].Err != api.ErrUninit || !slices.Equal(Kinds(l[1:]), []api.Errno{api.ErrSend}) || Stage(p) != 14 || Accept(p) {
		t.Error(len(l), Stage(p))
	}
	p.Items[0].Body = slices.Repeat([]api.Stmt{scope}, long)
	if l := Check(p); len(l) != long || !slices.Equal(Kinds(l), []api.Errno{api.ErrSend}) || Stage(p) != 15 || Accept(p) {
		t.Error(len(l), Stage(p))
	}
	for levels := 1; levels <= 35; levels++ {
		open, shut := strings.Repeat("while true { v = box(1); ", levels), strings.Repeat("} ", levels)
		judged(t, open, read(t, "fn main() -> int { let v = box(1); "+open+"drop v; v = box(2); "+shut+" unbox(v) }"), nil, 0)
	}
}
