package verdict

import (
	"slices"
	"strings"
	"testing"

	"weftway/api"
	"weftway/parse"
)

// read is the program of a text.
func read(t *testing.T, s string) api.Program {
	t.Helper()
	p, l := parse.Program(s)
	if len(l) > 0 {
		t.Fatalf("%q: %v", s, l)
	}
	return p
}

// told is what a mark says of the token behind it.
type told struct {
	word    string
	chapter int
	err     api.Errno
}

func tellings() []told {
	return []told{
		{"name", 6, api.ErrName}, {"scope", 6, api.ErrScope}, {"full", 6, api.ErrFull}, {"main", 6, api.ErrMain},
		{"table", 7, api.ErrTable}, {"infinite", 7, api.ErrInfinite},
		{"type", 10, api.ErrType}, {"owned", 10, api.ErrOwned}, {"move", 10, api.ErrMove},
		{"uninit", 14, api.ErrUninit}, {"loan", 14, api.ErrLoan}, {"alias", 14, api.ErrAlias},
		{"send", 15, api.ErrSend},
	}
}

// marked takes the marks out of a text: `#name# ` ahead of a token says that at its place ErrName is told, and so on.
func marked(t *testing.T, s string) (bare string, faults []api.Fault, chapters []int) {
	t.Helper()
	var text strings.Builder
	for {
		ahead, mark, found := strings.Cut(s, "#")
		text.WriteString(ahead)
		if !found {
			return text.String(), faults, chapters
		}
		word, behind, _ := strings.Cut(mark, "# ")
		i := slices.IndexFunc(tellings(), func(x told) bool { return x.word == word })
		if i < 0 {
			t.Fatalf("%q in %q", word, s)
		}
		x := tellings()[i]
		faults, chapters = append(faults, api.Fault{Err: x.err, At: text.Len()}), append(chapters, x.chapter)
		s = behind
	}
}

// least is the verdict of a program of which these are all faults that any chapter has to tell: those of the first chapter that has one; behind those of chapter 7 what 10 tells of such a program, behind those of 14 those of 15.
func least(faults []api.Fault, chapters []int) (first []api.Fault, stage int) {
	of := func(chapter int) (l []api.Fault) {
		for i, f := range faults {
			if chapters[i] == chapter {
				l = append(l, f)
			}
		}
		return l
	}
	if len(chapters) == 0 {
		return nil, 0
	}
	stage = slices.Min(chapters)
	switch first = of(stage); stage {
	case 7:
		first = append(first, api.Fault{Err: api.ErrArg})
	case 14:
		first = append(first, of(15)...)
	}
	return first, stage
}

// judged checks all calls on a program.
func judged(t *testing.T, text string, p api.Program, faults []api.Fault, stage int) {
	t.Helper()
	if got := Check(p); !slices.Equal(got, faults) {
		t.Errorf("%s\n%v, want %v", text, got, faults)
	}
	if got := Stage(p); got != stage {
		t.Errorf("%s\nstage %d, want %d", text, got, stage)
	}
	if got := Accept(p); got != (stage == 0) {
		t.Errorf("%s\naccepted: %t", text, got)
	}
	if stage == 0 != (len(faults) == 0) {
		t.Errorf("%s\nstage %d of %v", text, stage, faults)
	}
	if got, want := Kinds(faults), kindsOf(faults); !slices.Equal(got, want) {
		t.Errorf("%s\nkinds %v, want %v", text, got, want)
	}
}

// all checks texts with marks.
func all(t *testing.T, texts ...string) {
	t.Helper()
	for _, s := range texts {
		bare, faults, chapters := marked(t, s)
		first, stage := least(faults, chapters)
		judged(t, bare, read(t, bare), first, stage)
	}
}

// bodies checks bodies of main, and the same ones in another function.
func bodies(t *testing.T, texts ...string) {
	t.Helper()
	for _, s := range texts {
		all(t, "fn main() -> int { "+s+" 0 }", "struct S { a: int, b: Box<int> } enum E { A, B(S) } fn f(a: int, b: &S) -> int { "+s+" a } fn main() -> int { 0 }")
	}
}

// The rows of the chapter's examples.
func TestExamples(t *testing.T) {
	all(t, "fn main() -> int { 3 }", "fn main() -> int { #name# x }", "fn main() -> int { #type# true }", "fn main() -> int { let x = box(1); let y = x; let z = #uninit# x; 0 }")
}

// The ten examples of the whole.
func TestTen(t *testing.T) {
	bodies(t,
		"let x = box(1); let y = x; let z = #uninit# x;",
		"let v = box(5); let r = &v.*; #loan# drop v; r.*;",
		"let x = 0; scope { spawn (r = &mut x) { r.* = 1; } #loan# x = 2; }",
		"scope { let y = box(1); spawn (r = #alias# &y) { let k = r.*.*; } }",
		"let v = rc(1); scope { spawn (c = #send# clone(v)) { let d = clone(c); } let e = clone(v); }",
		"let v = arc(1); scope { spawn (c = clone(v)) { let d = clone(c); } let e = clone(v); }",
		"let m = arc(mutex(0)); scope { spawn (k = clone(m)) { lock k.* as g { g.* = g.* + 1; } } spawn (k = clone(m)) { lock k.* as g { g.* = g.* + 1; } } }",
		"let m = mutex(0); scope { spawn (k = &m) { lock k.* as g { 1 / 0; } } }",
		"let m = mutex(0); let n = mutex(1); scope { spawn (k = &m, l = &n) { lock k.* as g { lock l.* as h { } } } spawn (k = &m, l = &n) { lock l.* as g { lock k.* as h { } } } }",
	)
}

// P16.1, P16.2: what each of the chapters tells.
func TestNames(t *testing.T) {
	all(t, "#main# ", "#main# fn f() -> int { 0 }", "#main# fn main() -> bool { true }", "#main# fn main(a: int) -> int { a }", "fn f() -> int { 0 } #name# fn f() -> int { 1 } fn main() -> int { 0 }",
		"struct S { } #name# enum S { } fn main() -> int { 0 }", "#name# fn f(a: int, b: T) -> int { #name# f() } fn main() -> int { f(1, #name# d) }")
	bodies(t, "let v = #name# w; #name# let v = 1;", "#scope# spawn () { }", "scope { spawn (x = 1) { #scope# spawn (y = x) { } } } #name# z;", "#name# drop z; { let z = 1; } #name# z = 3;")
	var many strings.Builder
	for i := range 61 {
		many.WriteString("let v" + strings.Repeat("x", i%8) + strings.Repeat("y", i/8) + " = 1; ")
	}
	all(t, "#full# fn main() -> int { "+many.String()+"0 }", "fn f() -> int { scope { #full# spawn () { "+many.String()+"} } 0 } fn main() -> int { #name# g() }")
}

func TestTables(t *testing.T) {
	const main = " fn main() -> int { 0 }"
	all(t, "#table# struct S { a: &int }"+main, "#table# enum E { A(Cell<Atomic>), B }"+main, "#infinite# struct S { a: T } #infinite# enum T { A, B(S) }"+main, "#table# fn f(a: Box<&int>) -> int { 0 }"+main, "#table# fn f(a: &int) -> &int { a }"+main,
		"fn main() -> int { if true { #table# chan<&int>(1) as s, r; } 0 }", "struct S { a: Box<S>, b: Arc<T> } enum T { A(Cell<int>), B(Rc<S>) } fn f(a: &mut &S) -> T { T.A(cell(1)) }"+main)
}

func TestTypes(t *testing.T) {
	bodies(t, "#type# if 1 { }", "let v = box(1); let r = &v; #type# r.* = box(3);", "let v = 1; let r = &v; #owned# r = r;", "let v = 1; let r = &v; let c = #owned# box(r);", "let v = box(box(1)); let w = #move# v.*;", "1 #type# + true;", "let v = 1; #type# lock v as g { }", "let v = 1; let w = #type# &v.*;")
	all(t, "fn f() -> bool { 1 #type# < true } fn g() -> int { 1 } fn h() -> unit { #type# g() } fn main() -> int { #type# f() }")
}

func TestBorrows(t *testing.T) {
	bodies(t, "let v = box(1); while true { let w = #uninit# v; }", "let v = box(1); let r = &mut v; let s = #loan# &v;", "let v = box(1); if true { drop v; } #uninit# drop v; v = box(3); drop v;", "let v = box(1); scope { let w = box(2); spawn (r = #alias# &w, s = &v) { } let x = #loan# v; }",
		"let v = box(1); scope { spawn (w = v) { drop w; let x = #uninit# w; } }", "let v = box(1); { let r = &v; } let w = v; if true { v = w; } else { v = box(2); } drop v;")
	all(t, "fn f(a: Box<int>) -> int { drop a; unbox(#uninit# a) } fn g(a: Box<int>) -> int { unbox(a) } fn main() -> int { let v = box(1); g(v); g(#uninit# v) }")
}

func TestCrossings(t *testing.T) {
	bodies(t, "let v = rc(1); scope { spawn (w = #send# &v) { } } scope { spawn (w = #send# v) { } }", "let v = cell(1); scope { spawn (w = #send# &v) { } } scope { spawn (w = &mut v) { } }", "let v = mutex(cell(1)); scope { spawn (w = &v) { } spawn (w = #send# arc(cell(1))) { } }")
}
