package verdict

import (
	"slices"
	"strconv"
	"strings"
	"testing"

	"weftway/api"
)

// planted are items, each with faults of one chapter alone (0: without any); `%` is a number that no other item has.
func planted(chapter int) []string {
	switch chapter {
	case 6:
		return []string{"fn f%() -> int { #name# x }", "fn f%(a: int) -> int { let b = a; #name# let b = 2; #name# drop c; b }", "fn f%() -> int { #name# g%(1) }", "fn f%() -> int { #scope# spawn () { } 0 }", "#name# struct S% { a: N% }", "#name# enum E% { A, A }", "fn f%() -> int { scope { spawn (a = 1) { let b = #name# c; } } let b = 1; #name# c }"}
	case 7:
		return []string{"#table# struct S% { a: &int, b: int }", "#infinite# enum E% { A, B(E%) }", "#infinite# struct S% { a: T% } #infinite# struct T% { b: S% }", "#table# fn f%(a: Box<&int>) -> int { 0 }", "#table# fn f%(a: &int) -> &int { a }", "fn f%() -> int { #table# chan<Cell<Atomic>>(1) as a, b; 0 }", "#table# #table# #infinite# struct S% { a: Rc<&int>, b: Cell<S%>, c: S% }"}
	case 10:
		return []string{"fn f%() -> int { #type# true }", "fn f%(a: Box<int>, b: &Box<int>) -> int { let c = #move# b.*; drop c; 0 }", "fn f%(a: &int) -> int { #owned# a = a; 1 + true }", "fn f%(a: &int) -> unit { let b = #owned# box(a); () }", "fn f%() -> int { scope { spawn (a = true) { #type# while 1 { } } } 0 }"}
	case 14:
		return []string{"fn f%(a: Box<int>) -> int { drop a; #uninit# drop a; unbox(#uninit# a) }", "fn f%(a: Box<int>) -> int { let b = &a; #loan# drop a; unbox(#uninit# a) + b.*.* }", "fn f%() -> int { scope { let a = box(1); spawn (b = #alias# &a) { } } 0 }", "fn f%(a: Box<int>) -> int { scope { spawn (b = a) { drop b; let c = #uninit# b; } } 0 }", "fn f%(a: Box<int>) -> int { while true { #uninit# drop a; } 0 }"}
	case 15:
		return []string{"fn f%(a: Rc<int>) -> int { scope { spawn (b = #send# a) { } } 0 }", "fn f%(a: Cell<int>) -> int { scope { spawn (b = #send# &a, c = #send# rc(1)) { } } 0 }", "fn f%(a: &mut Rc<int>) -> int { scope { spawn (b = 1, c = #send# a) { scope { spawn (d = #send# &c) { } } } } 0 }"}
	}
	return []string{"fn f%(a: Box<int>) -> int { unbox(a) }", "struct S% { a: Box<S%>, b: Rc<int> }", "enum E% { A, B(Box<E%>), C(Cell<bool>) }", "fn f%(a: Cell<int>) -> int { scope { spawn (b = &mut a) { set(b.*, 1); } } scope { spawn (b = a) { } } 0 }", "fn f%(a: Arc<Mutex<int>>) -> int { let b = 0; lock a.* as g { b = g.*; } b }", "struct S% { a: Arc<Rc<bool>> } fn f%(a: S%) -> int { let S% { b } = a; 3 }", "fn f%() -> int { chan<int>(2) as s, r; scope { spawn (q = s) { send(q, 1); } } recv(r) }"}
}

func chapters() []int { return []int{6, 7, 10, 14, 15} }

// numbered puts numbers into items, from 0 on, and main among them.
func numbered(d *dice, items []string) string {
	items = shuffled(d, append(items, "fn main() -> int { 0 }"))
	for i, s := range items {
		items[i] = strings.ReplaceAll(s, "%", strconv.Itoa(i))
	}
	return strings.Join(items, " ")
}

// P16.1, P16.2, P16.5: of faults of several chapters all those of the first of these are told, wherever they stand, and behind those of 14 those of 15.
func TestOneBehindTheOther(t *testing.T) {
	d := dice(161)
	for range 12 {
		for set := range 32 {
			items := []string{pick(&d, planted(0)...)}
			for i, chapter := range chapters() {
				if set>>i&1 == 1 {
					items = append(items, pick(&d, planted(chapter)...))
				}
			}
			all(t, numbered(&d, items))
		}
	}
}

// P16.1, P16.2: each planted item alone, with and without others around it that are right.
func TestEachPlanted(t *testing.T) {
	d := dice(162)
	for _, chapter := range append(chapters(), 0) {
		for _, s := range planted(chapter) {
			text := numbered(&d, []string{s})
			_, _, marks := marked(t, text)
			if chapter == 0 && len(marks) > 0 || slices.ContainsFunc(marks, func(n int) bool { return n != chapter }) || chapter > 0 && len(marks) == 0 {
				t.Fatal(s)
			}
			all(t, text, numbered(&d, append(shuffled(&d, planted(0))[:4], s)))
		}
	}
}

// P16.1, P16.2: faults of several chapters within one function, or one body.
func TestWithinOne(t *testing.T) {
	for _, body := range []string{
		"let v = rc(1); let w = v; scope { spawn (x = #send# #uninit# v) { } }",
		"let v = rc(1); scope { spawn (x = #send# &v) { } #loan# drop v; }",
		"scope { let v = rc(1); spawn (x = #send# #alias# &v) { } }",
		"scope { spawn (x = #send# rc(1)) { drop x; #uninit# drop x; } }",
		"let v = rc(1); let w = box(2); scope { spawn (x = #send# v, y = w) { drop y; } spawn (x = #uninit# w, y = #send# rc(1)) { } } #uninit# drop v;",
		"let v = rc(1); scope { spawn (x = #send# v) { let y = 1; } } #uninit# drop v; true #type# + 1;",
		"let v = box(1); drop v; #uninit# drop v; 1 #type# < true; #name# w;",
		"#type# if 1 { } #table# chan<&int>(1) as s, r;",
		"#table# chan<&int>(1) as s, r; let v = rc(1); scope { spawn (x = #send# v) { } } #uninit# drop v;",
		"#table# chan<&int>(1) as s, r; #scope# spawn () { }",
		"let v = rc(1); scope { spawn (x = #send# &v) { } }",
	} {
		all(t, "fn main() -> int { "+body+" 0 }", "fn main() -> int { 0 } fn f(a: int) -> int { while a < 3 { "+body+" } 1 }", "fn main() -> int { scope { spawn (a = 1) { if a < 1 { } else { "+body+" } } } 0 }")
	}
}

// P16.1: where chapter 7 tells something, what 10 tells of such a program is told behind it; where 14 does, all that 15 has to say, function by function.
func TestTogether(t *testing.T) {
	const table, infinite, arg = api.ErrTable, api.ErrInfinite, api.ErrArg
	for _, c := range []struct {
		text  string
		want  []api.Fault
		stage int
	}{
		{"fn f(a: Box<&int>) -> int { 0 } fn main() -> int { 0 }", []api.Fault{{Err: table, At: 0}, {Err: arg, At: 0}}, 7},
		{" fn f() -> int { true } fn g(a: Box<&int>) -> int { 0 } fn main() -> int { 0 }", []api.Fault{{Err: table, At: 24}, {Err: arg, At: 0}}, 7},
		{"struct S { a: S } struct T { a: &T } fn main() -> int { true }", []api.Fault{{Err: infinite, At: 0}, {Err: table, At: 18}, {Err: arg, At: 0}}, 7},
		{"fn main() -> int { let x = rc(1); scope { spawn (y = x) { drop y; } } drop x; 0 }", []api.Fault{{Err: api.ErrUninit, At: 70}, {Err: api.ErrSend, At: 53}}, 14},
		{"fn main() -> int { let a = rc(1); scope { let y = box(2); spawn (b = &y, c = clone(a)) { } } 0 }", []api.Fault{{Err: api.ErrAlias, At: 69}, {Err: api.ErrSend, At: 77}}, 14},
		{"fn f(a: Rc<int>) -> int { scope { spawn (b = a) { drop b; } } 0 } fn main() -> int { let x = box(1); drop x; drop x; f(rc(unbox(x))) }", []api.Fault{{Err: api.ErrUninit, At: 109}, {Err: api.ErrUninit, At: 128}, {Err: api.ErrSend, At: 45}}, 14},
	} {
		judged(t, c.text, read(t, c.text), c.want, c.stage)
	}
}

// P16.1, P16.2: scattered programs of many items, of each chapter none, one or several with faults.
func TestScattered(t *testing.T) {
	d := dice(164)
	stages := map[int]int{}
	for range 1500 {
		items := scatteredItems(&d)
		text := numbered(&d, items)
		_, _, marks := marked(t, text)
		if len(marks) == 0 {
			marks = []int{0}
		}
		stages[slices.Min(marks)]++
		all(t, text)
	}
	for _, stage := range append(chapters(), 0) {
		if stages[stage] < 100 {
			t.Error(stages)
		}
	}
}

// P16.1, P16.2: what is wrong with main comes behind all that else is wrong with names, and ahead of what other chapters tell.
func TestMainLast(t *testing.T) {
	for _, main := range []string{"", "fn main() -> bool { true }", "fn main(a: int) -> int { a }"} {
		for _, chapter := range append(chapters(), 0) {
			for i, s := range planted(chapter) {
				bare, faults, _ := marked(t, strings.ReplaceAll(s, "%", strconv.Itoa(i))+" "+main)
				if chapter != 6 {
					faults = nil
				}
				judged(t, bare, read(t, bare), append(faults, api.Fault{Err: api.ErrMain}), 6)
			}
		}
	}
}

// scatteredItems leaves out chapters from the first on, as else most programs would have a fault of names.
func scatteredItems(d *dice) []string {
	var items []string
	for range d.below(5) {
		items = append(items, pick(d, planted(0)...))
	}
	from := d.below(len(chapters()) + 1)
	for _, chapter := range chapters()[from:] {
		for range d.below(4) {
			items = append(items, pick(d, planted(chapter)...))
		}
	}
	return items
}
