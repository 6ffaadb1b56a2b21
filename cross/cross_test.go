package cross

import (
	"regexp"
	"slices"
	"strings"
	"testing"

	"weftway/api"
	"weftway/parse"
	"weftway/show"
	"weftway/typing"
)

// read is the program of a text; it is right so far.
func read(t *testing.T, s string) api.Program {
	t.Helper()
	p, l := parse.Program(s)
	if len(l) > 0 {
		t.Fatalf("%q: %v", s, l)
	}
	if l := typing.Check(p); len(l) > 0 {
		t.Fatalf("%q: not right so far: %v", s, l)
	}
	return p
}

// marked takes the marks out of a text: ahead of the token at whose place something is told of an expression `#T#` says that it goes into a thread, of the type T; `!` behind T, that this is told as a fault. `1:`, `2:` ahead of T say that it is told behind all with a lesser number, or none.
func marked(s string) (bare string, rows []string, crossings []Cross, faults []api.Fault) {
	type numbered struct {
		number, row string
		bad         bool
		at          int
	}
	mark := regexp.MustCompile(`#(?:([0-9]):)?([^#!]+)(!?)# +`)
	var text strings.Builder
	var all []numbered
	last := 0
	for _, m := range mark.FindAllStringSubmatchIndex(s, -1) {
		text.WriteString(s[last:m[0]])
		last = m[1]
		x := numbered{row: s[m[4]:m[5]], bad: m[6] < m[7], at: text.Len()}
		if m[2] >= 0 {
			x.number = s[m[2]:m[3]]
		}
		all = append(all, x)
	}
	text.WriteString(s[last:])
	slices.SortStableFunc(all, func(a, b numbered) int { return strings.Compare(a.number, b.number) })
	for _, x := range all {
		rows, crossings = append(rows, squeezed(x.row)), append(crossings, Cross{At: x.at})
		if x.bad {
			faults = append(faults, api.Fault{Err: api.ErrSend, At: x.at})
		}
	}
	return text.String(), rows, crossings, faults
}

func squeezed(s string) string { return strings.ReplaceAll(s, " ", "") }

// sameRows says whether crossings are at those places, of the types of these texts.
func sameRows(got, want []Cross, rows []string) bool {
	return slices.EqualFunc(got, want, func(a, b Cross) bool { return a.At == b.At }) &&
		slices.EqualFunc(got, rows, func(a Cross, row string) bool { return squeezed(show.Type(a.Type)) == row })
}

// textOf is for telling.
func textOf(l []Cross) string {
	var s strings.Builder
	for _, c := range l {
		s.WriteString(show.Type(c.Type) + " at " + string(show.Expr(api.Expr{Op: api.EInt, Int: int64(c.At)})) + "; ")
	}
	return s.String()
}

// told checks a text with marks.
func told(t *testing.T, s string) {
	t.Helper()
	bare, rows, want, faults := marked(s)
	p := read(t, bare)
	if got := All(p); !sameRows(got, want, rows) {
		t.Errorf("%s\n%s", strings.TrimPrefix(s, items), textOf(got))
	}
	if got := Check(p); !slices.Equal(got, faults) {
		t.Errorf("%s\n%v, want %v", strings.TrimPrefix(s, items), got, faults)
	}
}

// items are what the texts of these tests ask for: P is Send and Sync, Q and F are Send, W and E neither.
const items = "struct P { a: int, b: Box<int> } struct Q { c: Cell<int>, d: P } struct W { e: Rc<int>, f: Q } struct L { g: int, h: Box<L> } struct O { } enum F { A, B(Q), C(P) } enum E { A(Rc<int>), B(int), C } " +
	"fn main() -> int { 0 } fn share(a: Rc<int>) -> Rc<int> { a } fn peek(a: &Cell<int>, b: &mut Cell<int>) -> Cell<int> { peek(a, b) } fn make(a: int) -> W { make(a) } fn never() -> L { never() } "

// in is a text of a function with that in its body, and variables of all sorts.
func in(s string) string {
	return items + "fn f(n: int, c: Cell<int>, o: Rc<int>, r: &Cell<int>, m: &mut Cell<int>, w: W) -> int { " + s + " 0 }"
}

// all checks texts with marks, each in the body of that function.
func all(t *testing.T, texts ...string) {
	t.Helper()
	for _, s := range texts {
		told(t, in(s))
	}
}

// lists checks lists of spawns.
func lists(t *testing.T, texts ...string) {
	t.Helper()
	for _, s := range texts {
		all(t, "scope { spawn ("+s+") { } }")
	}
}

// The rows of the chapter's examples.
func TestExamples(t *testing.T) {
	for _, s := range []string{
		"let x = rc(1); scope { spawn (y = #Rc<int>!# x) { } }", "let x = rc(1); scope { spawn (y = #&Rc<int>!# &x) { } }",
		"let x = arc(1); scope { spawn (y = #Arc<int># x) { } }", "let x = arc(1); scope { spawn (y = #&Arc<int># &x) { } }",
		"let x = cell(1); scope { spawn (y = #Cell<int># x) { } }", "let x = cell(1); scope { spawn (y = #&Cell<int>!# &x) { } }", "let x = cell(1); scope { spawn (y = #&mut Cell<int># &mut x) { } }",
	} {
		told(t, "fn main() -> int { "+s+" 0 }")
	}
}

// The document's ten examples of the whole, as far as something goes into threads.
func TestWholePrograms(t *testing.T) {
	for _, s := range []string{
		"fn main() -> int { 3 }",
		"fn main() -> int { let x = 0; scope { spawn (r = #&mut int# &mut x) { r.* = 1; } x = 2; } x }",
		"fn main() -> int { scope { let y = box(1); spawn (r = #&Box<int># &y) { let k = r.*.*; } } 0 }",
		"fn main() -> int { let a = rc(1); scope { spawn (c = #Rc<int>!# clone(a)) { } } 0 }",
		"fn main() -> int { let a = arc(1); scope { spawn (c = #Arc<int># clone(a)) { } } 0 }",
		"fn main() -> int { let m = arc(mutex(0)); let out = 0; scope { let n = clone(m); spawn (k = #Arc<Mutex<int>># n) { lock k.* as g { g.* = g.* + 1; } } spawn (r = #&Arc<Mutex<int>># &m) { lock r.*.* as g { g.* = g.* + 10; } } } lock m.* as g { out = g.*; } out }",
		"fn main() -> int { let a = mutex(0); let b = mutex(0); scope { spawn (x = #&Mutex<int># &a, y = #&Mutex<int># &b) { lock x.* as g { lock y.* as h { } } } spawn (x = #&Mutex<int># &a, y = #&Mutex<int># &b) { lock y.* as h { lock x.* as g { } } } } 0 }",
		"fn main() -> int { let a = atomic(0); scope { spawn (r = #&Atomic# &a) { fetch(r.*, 1); } spawn (r = #&Atomic# &a) { fetch(r.*, 2); } } load(a) }",
		"fn main() -> int { let c = cell(0); scope { spawn (r = #&Cell<int>!# &c) { set(r.*, 1); } set(c, 2); } get(c) }",
		"fn main() -> int { chan<Rc<int>>(2) as s, r; let a = rc(1); let b = clone(a); send(s, b); scope { spawn (q = #Receiver<Rc<int>>!# r) { let c = recv(q); let d = clone(c); } let e = clone(a); } 0 }",
	} {
		told(t, s)
	}
}

// P15.1: of programs that are not right so far nothing is told; of those whose moves and loans are wrong what goes into threads is.
func TestNotRightSoFar(t *testing.T) {
	const wrong = "let x = rc(1); scope { spawn (q = x, o = &x) { drop q; drop q; } drop x; drop x; } "
	for i, s := range []string{
		"", "fn main() -> int { " + wrong + "z }", "fn main() -> bool { " + wrong + "true }", "fn f() -> int { " + wrong + "0 }", "fn main() -> int { " + wrong + "let x = 1; 0 }", "fn main() -> int { " + wrong + "spawn () { } 0 }",
		"struct S { a: S } fn main() -> int { " + wrong + "0 }", "struct S { a: &int } fn main() -> int { " + wrong + "0 }", "fn main() -> int { " + wrong + "true }", "fn main() -> int { " + wrong + "let b = box(box(1)); let c = b.*; 0 }",
		"fn main() -> int { " + wrong + "0 } fn f(a: int) -> int { a = true; 0 }", "fn main() -> int { " + wrong + "scope { spawn (q = 1) { q = true; } } 0 }", "fn main() -> int { " + wrong + "scope { spawn (q = &z) { } } 0 }", "fn main() -> int { " + wrong + "scope { spawn (q = x.*.*) { } } 0 }",
	} {
		p, l := parse.Program(s)
		if len(l) > 0 {
			t.Fatalf("%d: %v", i, l)
		}
		if all, faults := All(p), Check(p); all != nil || faults != nil {
			t.Errorf("%d: %v %v", i, all, faults)
		}
	}
	told(t, "fn main() -> int { "+strings.NewReplacer("= x,", "= #Rc<int>!# x,", "= &x", "= #&Rc<int>!# &x").Replace(wrong)+"0 }")
	for i, spoil := range []func(x *api.Item){
		func(x *api.Item) { x.Kind = 0 }, func(x *api.Item) { x.Kind = 9 }, func(x *api.Item) { x.Return = api.Expr{} }, func(x *api.Item) { x.Return.Int = -1 }, func(x *api.Item) { x.Body[1].Op = 0 }, func(x *api.Item) { x.Body[1].Op = 200 }, func(x *api.Item) { x.Body[0].Exprs = nil }, func(x *api.Item) { x.Body[1].Exprs = x.Body[0].Exprs },
		func(x *api.Item) { x.Body[0].Op = api.SSpawn }, func(x *api.Item) { x.Body[0].Op = api.STake }, func(x *api.Item) { x.Body[1].Op = api.SMatch }, func(x *api.Item) { x.Body[1].Op = api.SLock }, func(x *api.Item) { x.Return = api.Expr{Op: api.EShare, Place: api.Place{Name: "x"}} }, func(x *api.Item) { x.Fields = make([]api.Field, 7) },
		func(x *api.Item) { x.Body[1].Body[0].Exprs = x.Body[1].Body[0].Exprs[:1] }, func(x *api.Item) { x.Body[1].Body[0].Names = x.Body[1].Body[0].Names[:1] }, func(x *api.Item) { x.Body[1].Body[0].Else = x.Body[1].Body },
	} {
		p := read(t, "fn main() -> int { "+wrong+"0 }")
		if len(All(p)) != 2 || len(Check(p)) != 2 {
			t.Fatal(All(p))
		}
		spoil(&p.Items[0])
		if all, faults := All(p), Check(p); all != nil || faults != nil {
			t.Errorf("%d: %v %v", i, all, faults)
		}
	}
	p := read(t, "fn main() -> int { "+wrong+"0 }")
	for i, q := range []api.Program{{}, {Items: []api.Item{}}, {Items: slices.Repeat(p.Items, 31)}, {Items: append(slices.Clone(p.Items), api.Item{})}, {Items: append(slices.Clone(p.Items), p.Items...)}} {
		if all, faults := All(q), Check(q); all != nil || faults != nil {
			t.Errorf("%d: %v %v", i, all, faults)
		}
	}
}

// P15.1, P15.2: what goes in more than once is told each time, also at one place; any number is a place.
func TestEachTime(t *testing.T) {
	p := read(t, "fn main() -> int { let x = rc(1); let n = 1; scope { spawn (a = x, b = n, c = &x, d = x) { } } 0 }")
	scope := &p.Items[0].Body[2]
	for i, at := range []int{7, 7, -3, 7} {
		scope.Body[0].Exprs[i].At = at
	}
	scope.Body = slices.Repeat(scope.Body, 2)
	want := slices.Repeat([]api.Fault{{Err: api.ErrSend, At: 7}, {Err: api.ErrSend, At: -3}, {Err: api.ErrSend, At: 7}}, 2)
	if got := Check(p); !slices.Equal(got, want) {
		t.Error(got)
	}
	if got := All(p); !sameRows(got, slices.Repeat([]Cross{{At: 7}, {At: 7}, {At: -3}, {At: 7}}, 2), slices.Repeat([]string{"Rc<int>", "int", "&Rc<int>", "Rc<int>"}, 2)) {
		t.Error(textOf(got))
	}
}
