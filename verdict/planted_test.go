package verdict

import (
	"slices"
	"strconv"
	"strings"
	"testing"

	"weftway/api"
)

// planted are items, each with faults of one chapter alone (0: without any); `%` is a number that no other item has.
func planted(chapter int) []string {
	switch chapter {
	case 6:
		return []string{"fn f%() -> int { #name# x }", "fn f%(a: int) -> int { let b = a; #name# let b = 2; #name# drop c; b }", "fn f%() -> int { #name# g%(1) }", "fn f%() -> int { #scope# spawn () { } 0 }", "#name# struct S% { a: N% }", "#name# enum E% { A, A }", "fn f%() -> int { scope { spawn (a = 1) { let b = #name# c; } } let b = 1; #name# c }"}
	case 7:
		return []string{"#table# struct S% { a: &int, b: int }", "#infinite# enum E% { A, B(E%) }", "#infinite# struct S% { a: T% } #infinite# struct T% { b: S% }", "#table# fn f%(a: Box<&int>) -> int { 0 }", "#table# fn f%(a: &int) -> &int { a }", "fn f%() -> int { #table# chan<Cell<Atomic>>(1) as a, b; 0 }", "#table# #table# #infinite# struct S% { a: Rc<&int>, b: Cell<S%>, c: S% }"}
	case 10:
		return []string{"fn f%() -> int { #type# true }", "fn f%(a: Box<int>, b: &Box<int>) -> int { let c = #move# b.*; drop c; 0 }", "fn f%(a: &int) -> int { #owned# a = a; 1 + true }", "fn f%(a: &int) -> unit { let b = #owned# box(a); () }", "fn f%() -> int { scope { spawn (a = true) { #type# while 1 { } } } 0 }"}
	case 14:
		return []string{"fn f%(a: Box<int>) -> int { drop a; #uninit# drop a; unbox(#uninit# a) }", "fn f%(a: Box<int>) -> int { let b = &a; #loan# drop a; unbox(#uninit# a) + b.*.* }", "fn f%() -> int { scope { let a = box(1); spawn (b = #alias# &a) { } } 0 }", "fn f%(a: Box<int>) -> int { scope { spawn (b = a) { drop b; let c = #uninit# b; } } 0 }", "fn f%(a: Box<int>) -> int { while true { #uninit# drop a; } 0 }"}
	case 15:
		return []string{"fn f%(a: Rc<int>) -> int { scope { spawn (b = #send# a) { } } 0 }", "fn f%(a: Cell<int>) -> int { scope { spawn (b = #send# &a, c = #send# rc(1)) { } } 0 }", "fn f%(a: &mut Rc<int>) -> int { scope { spawn (b = 1, c = #send# a) { scope { spawn (d = #send# &c) { } } } } 0 }"}
	}
	return []string{"fn f%(a: Box<int>) -> int { unbox(a) }", "struct S% { a: Box<S%>, b: Rc<int> }", "enum E% { A, B(Box<E%>), C(Cell<bool>) }", "fn f%(a: Cell<int>) -> int { scope { spawn (b = &mut a) { set(b.*, 1); } } scope { spawn (b = a) { } } 0 }", "fn f%(a: Arc<Mutex<int>>) -> int { let b = 0; lock a.* as g { b = g.*; } b }", "struct S% { a: Arc<Rc<bool>> } fn f%(a: S%) -> int { let S% { b } = a; 3 }", "fn f%() -> int { chan<int>(2) as s, r; scope { spawn (q = s) { send(q, 1); } } recv(r) }"}
}

func chapters() []int { return []int{6, 7, 10, 14, 15} }

// numbered puts numbers into items, from 0 on, and main among them.
func numbered(d *dice, items []string) string {
	items = shuffled(d, append(items, "fn main() -> int { 0 }"))
	for i, s := range items {
		items[i] = strings.ReplaceAll(s, "%", strconv.Itoa(i))
	}
	return strings.Join(items, " ")
}

// P16.1, P16.2, P16.5: of faults of several chapters just those of the first of these are told, all of them, wherever they stand.
func TestOneBehindTheOther(t *testing.T) {
	d := dice(161)
	for range 12 {
		for set := range 32 {
			items := []string{pick(&d, planted(0)...)}
			for i, chapter := range chapters() {
				if set>>i&1 == 1 {
					items = append(items, pick(&d, planted(chapter)...))
				}
			}
			all(t, numbered(&d, items))
		}
	}
}

// P16.1, P16.2: each planted item alone, with and without others around it that are right.
func TestEachPlanted(t *testing.T) {
	d := dice(162)
	for _, chapter := range append(chapters(), 0) {
		for _, s := range planted(chapter) {
			text := numbered(&d, []string{s})
			_, _, marks := marked(t, text)
			if chapter == 0 && len(marks) > 0 || slices.ContainsFunc(marks, func(n int) bool { return n != chapter }) || chapter > 0 && len(marks) == 0 {
				t.Fatal(s)
			}
			all(t, text, numbered(&d, append(shuffled(&d, planted(0))[:4], s)))
		}
	}
}

// P16.1, P16.2: faults of several chapters within one function, or one body.
func TestWithinOne(t *testing.T) {
	for _, c := range []struct {
		body    string
		chapter int
		err     api.Errno
	}{
		{"let v = rc(1); let w = v; scope { spawn (x = v) { } }", 14, api.ErrUninit},
		{"let v = rc(1); scope { spawn (x = &v) { } drop v; }", 14, api.ErrLoan},
		{"scope { let v = rc(1); spawn (x = &v) { } }", 14, api.ErrAlias},
		{"scope { spawn (x = rc(1)) { drop x; drop x; } }", 14, api.ErrUninit},
		{"let v = rc(1); scope { spawn (x = v) { let y = 1; } } drop v; true + 1;", 10, api.ErrType},
		{"let v = box(1); drop v; drop v; 1 < true; w;", 6, api.ErrName},
		{"if 1 { } chan<&int>(1) as s, r;", 7, api.ErrTable},
		{"chan<&int>(1) as s, r; spawn () { }", 6, api.ErrScope},
		{"let v = rc(1); scope { spawn (x = &v) { } }", 15, api.ErrSend},
	} {
		for _, text := range []string{"fn main() -> int { " + c.body + " 0 }", "fn main() -> int { 0 } fn f(a: int) -> int { while a < 3 { " + c.body + " } 1 }", "fn main() -> int { scope { spawn (a = 1) { if a < 1 { } else { " + c.body + " } } } 0 }"} {
			if c.err == api.ErrScope && strings.HasPrefix(c.body, "spawn") {
				continue
			}
			p := read(t, text)
			l := Check(p)
			if len(l) != 1 || l[0].Err != c.err || Stage(p) != c.chapter || Accept(p) || !slices.Equal(Kinds(l), []api.Errno{c.err}) {
				t.Errorf("%s\n%v, stage %d", text, l, Stage(p))
			}
		}
	}
}

// P16.1, P16.2: scattered programs of many items, of each chapter none, one or several with faults.
func TestScattered(t *testing.T) {
	d := dice(164)
	stages := map[int]int{}
	for range 1500 {
		items := scatteredItems(&d)
		text := numbered(&d, items)
		_, _, marks := marked(t, text)
		if len(marks) == 0 {
			marks = []int{0}
		}
		stages[slices.Min(marks)]++
		all(t, text)
	}
	for _, stage := range append(chapters(), 0) {
		if stages[stage] < 100 {
			t.Error(stages)
		}
	}
}

// P16.1, P16.2: what is wrong with main comes behind all that else is wrong with names, and ahead of what other chapters tell.
func TestMainLast(t *testing.T) {
	for _, main := range []string{"", "fn main() -> bool { true }", "fn main(a: int) -> int { a }"} {
		for _, chapter := range append(chapters(), 0) {
			for i, s := range planted(chapter) {
				bare, faults, _ := marked(t, strings.ReplaceAll(s, "%", strconv.Itoa(i))+" "+main)
				if chapter != 6 {
					faults = nil
				}
				judged(t, bare, read(t, bare), append(faults, api.Fault{Err: api.ErrMain}), 6)
			}
		}
	}
}

// scatteredItems leaves out chapters from the first on, as else most programs would have a fault of names.
func scatteredItems(d *dice) []string {
	var items []string
	for range d.below(5) {
		items = append(items, pick(d, planted(0)...))
	}
	from := d.below(len(chapters()) + 1)
	for _, chapter := range chapters()[from:] {
		for range d.below(4) {
			items = append(items, pick(d, planted(chapter)...))
		}
	}
	return items
}
