package cross

import (
	"reflect"
	"slices"
	"strconv"
	"testing"
	"unsafe"

	"weftway/api"
	"weftway/tree"
)

// spoiled is a text that has variables, and things that go into threads, of all sorts.
const spoiled = "struct S { a: Box<Rc<int>>, b: T } struct T { c: Cell<int> } enum E { A, B(Box<S>) } fn give(a: S) -> Box<S> { box(a) } fn f(s: S, e: E, r: &Box<T>, m: &mut Rc<S>) -> int { let x = r; let y = &s; scope { spawn (a = r, b = x, c = s, d = &s, e = y, f = m) { let z = c; scope { spawn (a = &z, b = z, c = give(z), d = d, e = e) { } } } } " +
	"let S { h, i } = s; chan<Box<S>>(1) as j, k; let n = mutex(h); lock n as g { scope { spawn (a = g, b = h, c = i, d = clone(j), e = k, f = recv(k)) { } } } match e: E { A => { } B(l) => { scope { spawn (a = l, b = unbox(l), c = &l.*.a) { } } } } 0 } fn main() -> int { 0 }"

// eachPart hands on what a struct or a list has.
func eachPart(v reflect.Value, each func(reflect.Value)) {
	switch v.Kind() {
	case reflect.Struct:
		for i := range v.NumField() {
			each(v.Field(i))
		}
	case reflect.Slice:
		for i := range v.Len() {
			each(v.Index(i))
		}
	}
}

// roomy puts room behind each list, with zero values in it.
func roomy(v reflect.Value) {
	eachPart(v, roomy)
	if v.Kind() == reflect.Slice && v.Len() > 0 {
		longer := reflect.MakeSlice(v.Type(), v.Len()+3, v.Len()+3)
		reflect.Copy(longer, v)
		v.Set(longer.Slice(0, v.Len()))
	}
}

func untouched(t *testing.T, v reflect.Value) {
	t.Helper()
	if v.Kind() == reflect.Slice && v.Len() > 0 {
		for i := v.Len(); i < v.Cap(); i++ {
			if !v.Slice(0, v.Cap()).Index(i).IsZero() {
				t.Errorf("behind %v", v)
			}
		}
	}
	eachPart(v, func(x reflect.Value) { untouched(t, x) })
}

// lists are the places in memory of all lists with room, and names.
func listsOf(v reflect.Value, all map[unsafe.Pointer]int) {
	switch {
	case v.Kind() == reflect.Slice && v.Cap() > 0:
		all[v.UnsafePointer()]++
	case v.Kind() == reflect.String && v.Len() > 0:
		all[unsafe.Pointer(unsafe.StringData(v.String()))]++
	}
	eachPart(v, func(x reflect.Value) { listsOf(x, all) })
}

// P0.4: nothing that is handed in is changed, the room behind it neither.
func TestHandedIn(t *testing.T) {
	p := read(t, spoiled)
	roomy(reflect.ValueOf(&p).Elem())
	before := tree.Copy(p)
	want, faults := All(read(t, spoiled)), Check(read(t, spoiled))
	if len(want) != 20 || len(faults) < 10 {
		t.Fatal(len(want), len(faults))
	}
	for range 2 {
		if got := All(p); !reflect.DeepEqual(got, want) {
			t.Errorf("%v, want %v", got, want)
		}
		if got := Check(p); !slices.Equal(got, faults) {
			t.Errorf("%v, want %v", got, faults)
		}
	}
	if !reflect.DeepEqual(p, before) {
		t.Error("changed")
	}
	untouched(t, reflect.ValueOf(p))
}

// P0.4: what is answered is in memory of its own, the room behind it too; no two lists of it share any.
func TestAnswerApart(t *testing.T) {
	p := read(t, spoiled)
	before := tree.Copy(p)
	got, other := All(p), All(p)
	own, given := map[unsafe.Pointer]int{}, map[unsafe.Pointer]int{}
	listsOf(reflect.ValueOf(got), own)
	listsOf(reflect.ValueOf(other), given)
	listsOf(reflect.ValueOf(p), given)
	for at, n := range own {
		if n > 1 || given[at] > 0 {
			t.Error("shared")
		}
	}
	if len(own) < 20 {
		t.Error(len(own))
	}
	want := All(tree.Copy(p))
	for i := range got[:cap(got)] {
		scratch(&got[:cap(got)][i].Type)
		got[:cap(got)][i] = Cross{Type: api.Type{Kind: 99}, At: -1}
	}
	faults := Check(p)
	for i := range faults[:cap(faults)] {
		faults[:cap(faults)][i] = api.Fault{Err: 99, At: -1}
	}
	if !reflect.DeepEqual(other, want) || !reflect.DeepEqual(All(p), want) || !reflect.DeepEqual(p, before) || len(Check(p)) != len(faults) || slices.Equal(Check(p), faults) {
		t.Error("changed with the answer")
	}
}

// scratch changes all of a type, and the room behind it.
func scratch(t *api.Type) {
	for i := range t.Args {
		scratch(&t.Args[i])
	}
	_ = append(t.Args, api.Type{Kind: 77})
	t.Kind, t.Name = 99, "scratched"
}

// P0.4: lists that are nil and empty ones are the same.
func TestEmptyLists(t *testing.T) {
	for _, s := range []string{spoiled, "fn main() -> int { 0 }", in("if true { scope { spawn () { } } } scope { } while true { scope { spawn (x = o) { } } }")} {
		p := read(t, s)
		q := tree.Copy(p)
		var each func(v reflect.Value)
		each = func(v reflect.Value) {
			if v.Kind() == reflect.Slice && v.IsNil() {
				v.Set(reflect.MakeSlice(v.Type(), 0, 2))
			}
			eachPart(v, each)
		}
		each(reflect.ValueOf(&q).Elem())
		if got, want := Check(q), Check(p); !slices.Equal(got, want) {
			t.Errorf("%v, want %v", got, want)
		}
		if got, want := All(q), All(p); !slices.EqualFunc(got, want, sameCross) {
			t.Errorf("%v, want %v", got, want)
		}
	}
}

func sameCross(a, b Cross) bool { return a.At == b.At && tree.SameType(a.Type, b.Type) }

// P0.1: at trees that are no programs nothing is told, and nothing panics.
func TestNoProgram(t *testing.T) {
	d := dice(1501)
	told := 0
	for i := range 3000 {
		p := read(t, spoiled)
		for range 1 + d.below(3) {
			spoil(&d, reflect.ValueOf(&p).Elem())
		}
		all, faults := All(p), Check(p)
		if len(faults) > len(all) {
			t.Fatal(i)
		}
		if len(all) > 0 {
			told++
		}
	}
	if told < 100 || told > 2900 {
		t.Error("told " + strconv.Itoa(told))
	}
}

// spoil changes one thing, somewhere in a tree.
func spoil(d *dice, v reflect.Value) {
	for d.below(12) > 0 && (v.Kind() == reflect.Struct || v.Kind() == reflect.Slice && v.Len() > 0) {
		if v.Kind() == reflect.Struct {
			v = v.Field(d.below(v.NumField()))
		} else {
			v = v.Index(d.below(v.Len()))
		}
	}
	switch v.Kind() {
	case reflect.Int, reflect.Int64:
		v.SetInt(int64(d.below(9) - 2))
	case reflect.Uint8:
		v.SetUint(uint64(d.below(40)))
	case reflect.String:
		v.SetString(pick(d, "", "x", "s", "S", "main", "*"))
	case reflect.Struct:
		v.SetZero()
	case reflect.Slice:
		switch n := v.Len(); {
		case n == 0:
			v.Set(reflect.MakeSlice(v.Type(), 1, 1))
		case d.below(2) == 0:
			v.Set(v.Slice(0, d.below(n)))
		default:
			v.Set(reflect.Append(v.Slice3(0, n, n), v.Index(d.below(n))))
		}
	}
}
