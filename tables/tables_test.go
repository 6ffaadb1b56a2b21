package tables

import (
	"regexp"
	"slices"
	"strconv"
	"strings"
	"testing"

	"weftway/api"
	"weftway/parse"
)

// read is the program of a text.
func read(t *testing.T, s string) api.Program {
	t.Helper()
	p, l := parse.Program(s)
	if len(l) > 0 {
		t.Fatalf("%q: %v", s, l)
	}
	return p
}

// marked takes the marks out of a text: ahead of a token `#1` says that the first fault is told there; an `i` behind the number, that it is one of what has itself, else it is one of a type.
func marked(s string) (string, []api.Fault) {
	mark := regexp.MustCompile(`#([0-9]+)(i?) *`)
	var bare strings.Builder
	found := map[int]api.Fault{}
	last := 0
	for _, m := range mark.FindAllStringSubmatchIndex(s, -1) {
		bare.WriteString(s[last:m[0]])
		last = m[1]
		number, _ := strconv.Atoi(s[m[2]:m[3]])
		err := map[string]api.Errno{"": api.ErrTable, "i": api.ErrInfinite}[s[m[4]:m[5]]]
		found[number] = api.Fault{Err: err, At: bare.Len()}
	}
	bare.WriteString(s[last:])
	var all []api.Fault
	for i := range len(found) {
		all = append(all, found[i+1])
	}
	return bare.String(), all
}

// told checks a text with marks.
func told(t *testing.T, s string) {
	t.Helper()
	bare, want := marked(s)
	if got := Check(read(t, bare)); !slices.Equal(got, want) {
		t.Errorf("%q: %v, want %v", s, got, want)
	}
}

// The rows of the chapter's examples.
func TestExamples(t *testing.T) {
	table, infinite := api.ErrTable, api.ErrInfinite
	for s, want := range map[string][]api.Errno{
		"struct S { a: int, b: Box<S> }":      nil,
		"struct S { a: S }":                   {infinite},
		"enum E { A, B(E) }":                  {infinite},
		"struct S { a: T } struct T { b: S }": {infinite, infinite},
		"struct S { a: &int }":                {table},
		"struct S { a: Cell<S> }":             {table},
		"struct S { a: Box<&int> }":           {table},
		"fn f(a: &mut &int) -> int { 0 }":     nil,
		"fn f() -> &int { a }":                {table},
		"fn f(a: Box<&int>) -> int { 0 }":     {table},
	} {
		var got []api.Errno
		for _, f := range Check(read(t, s)) {
			got = append(got, f.Err)
			if f.At != strings.LastIndex(s, "struct T") && f.At != 0 {
				t.Errorf("%q: at %d", s, f.At)
			}
		}
		if !slices.Equal(got, want) {
			t.Errorf("%q: %v, want %v", s, got, want)
		}
	}
}

// types says of texts of types whether they may be a field's, payload's, result's, channel's, or a parameter's alone, or not even that.
func types() map[string]string {
	return map[string]string{
		"int": "kept", "bool": "kept", "unit": "kept", "Atomic": "kept", "S": "kept", "Missing": "kept",
		"Box<int>": "kept", "Rc<S>": "kept", "Arc<Mutex<S>>": "kept", "Mutex<Atomic>": "kept",
		"Sender<Receiver<Box<bool>>>": "kept", "Receiver<Sender<Rc<Cell<unit>>>>": "kept",
		"Cell<int>": "kept", "Cell<bool>": "kept", "Cell<unit>": "kept", "Box<Box<Box<Missing>>>": "kept",

		"&int": "lent", "&mut int": "lent", "&&int": "lent", "&mut &int": "lent", "& &mut &mut S": "lent",
		"&Cell<int>": "lent", "&mut Box<S>": "lent", "&mut & Receiver<Cell<bool>>": "lent",

		"Cell<S>": "no", "Cell<Atomic>": "no", "Cell<Cell<int>>": "no", "Cell<Box<int>>": "no", "Cell<&int>": "no",
		"Cell<&mut bool>": "no", "Cell<Rc<unit>>": "no", "Box<Cell<S>>": "no", "&Cell<S>": "no", "&mut Rc<Cell<Atomic>>": "no",
		"Box<&int>": "no", "Rc<&int>": "no", "Arc<&int>": "no", "Mutex<&int>": "no", "Sender<&int>": "no", "Receiver<&int>": "no",
		"Box<&mut int>": "no", "Rc<&mut S>": "no", "Arc<&mut int>": "no", "Mutex<&mut S>": "no", "Sender<&mut int>": "no", "Receiver<&mut int>": "no",
		"Box<Rc<Arc<&int>>>": "no", "&Box<&int>": "no", "&mut Sender<Mutex<&mut S>>": "no", "&Arc<&Box<int>>": "no",
	}
}

// P7.1: each type wherever one may be.
func TestTypes(t *testing.T) {
	for s, sort := range types() {
		kept, lent := "#1 ", "#1 "
		if sort == "kept" {
			kept = ""
		}
		if sort != "no" {
			lent = ""
		}
		told(t, kept+"struct T { a: int, b: "+s+" }")
		told(t, kept+"enum T { A, B("+s+"), C }")
		told(t, lent+"fn f(a: int, b: "+s+") -> int { 0 }")
		told(t, kept+"fn f() -> "+s+" { 0 }")
		told(t, "fn f() -> int { "+kept+"chan<"+s+">(1) as a, b; 0 }")
	}
}

// P7.1: at most one fault for each field, parameter, result and channel.
func TestEach(t *testing.T) {
	for _, s := range []string{
		"",
		"struct S { } enum E { } enum F { A, B } fn f() -> unit { () }",
		"#1 struct S { a: &Cell<&int> }",
		"#1 #2 #3 struct S { a: &int, b: int, c: Cell<S>, d: Box<S>, e: &mut int }",
		"#1 #2 enum E { A(&int), B, C(Cell<E>), D(int) }",
		"#1 #2 fn f(a: Box<&int>, b: int, c: &int, d: Cell<Atomic>) -> int { 0 }",
		"#1 fn f() -> &Cell<&int> { 0 }",
		"#1 #2 fn f(a: Cell<Atomic>) -> &int { 0 }",
		"fn f() -> int { #1 chan<&Cell<&int>>(1) as a, b; 0 }",
		"fn f() -> int { #1 chan<Cell<S>>(1) as a, b; chan<Cell<int>>(1) as c, d; #2 chan<&mut S>(8) as e, g; 0 }",
		"#1 struct S { a: &int } struct S { a: int } #2 struct S { a: &int }",
	} {
		told(t, s)
	}
}

// P7.1: channels wherever a statement may stand, one ahead of what it has.
func TestChannels(t *testing.T) {
	one := func(n string) string { return "#" + n + " chan<&int>(1) as a, b; " }
	for _, s := range []string{
		one("1") + one("2"),
		"{ " + one("1") + "{ " + one("2") + "} " + one("3") + "} " + one("4"),
		"if true { " + one("1") + "} else { " + one("2") + "} " + one("3"),
		"if true { } else { if false { } else { " + one("1") + "} }",
		"while true { " + one("1") + "while true { " + one("2") + "} }",
		"match x: E { A => { " + one("1") + "} B(y) => { " + one("2") + one("3") + "} C => { } D => { " + one("4") + "} } " + one("5"),
		"scope { spawn () { " + one("1") + "} " + one("2") + "} " + one("3"),
		"lock m as g { " + one("1") + "} " + one("2"),
		"let x = 1; x = 2; x; drop x; let S { a } = x; " + one("1"),
		"scope { spawn (x = 1) { lock x as g { if true { while true { match x: E { A => { { " + one("1") + "} } } } } } } }",
	} {
		told(t, "fn f() -> int { "+s+"0 }")
		told(t, "struct T { } fn g() -> int { 0 } fn f(a: &int) -> int { "+s+"0 } enum E { }")
	}
}

// P7.1: what has itself.
func TestInfinite(t *testing.T) {
	for _, s := range []string{
		"#1i struct S { a: S }",
		"#1i enum E { A, B(E) }",
		"#1i struct S { a: int, b: S, c: S }",
		"#1i struct S { a: T } #2i struct T { b: S }",
		"#1i struct S { a: E } #2i enum E { A(int), B, C(S) }",
		"#1i struct S { a: T } #2i struct T { a: U } #3i struct U { a: S }",
		"#1i struct S { a: T } #2i struct T { a: int, b: U, c: int } #3i struct U { a: V, b: S, c: V } struct V { a: int }",
		"struct S { a: T } #1i struct T { a: T }",
		"struct S { a: T, b: T } #1i struct T { a: U } #2i struct U { a: T } struct V { a: S, b: T, c: U }",
		"struct S { a: T, b: U } struct T { a: U, b: int } struct U { a: int }",
		"struct S { a: T, b: T, c: T } struct T { }",
		"struct S { a: T, b: U } struct T { a: V } struct U { a: V } struct V { }",
		"#1i struct S { a: T, b: U } struct T { } #2i struct U { a: T, b: S }",
		"struct S { a: Box<S>, b: Rc<S>, c: Arc<S>, d: Mutex<S>, e: Sender<S>, f: Receiver<S> }",
		"enum E { A(Box<E>), B(Rc<E>), C(Arc<E>), D(Mutex<E>), F(Sender<E>), G(Receiver<E>) }",
		"#1 #2 #3 struct S { a: &S, b: &mut S, c: Cell<S> }",
		"struct S { a: T } struct T { a: Box<S> }",
		"struct S { a: Missing } enum E { A(Missing), B }",
		"fn f(a: S) -> S { a } struct S { } fn g(a: &S) -> T { 0 } enum T { A(S), B(S) }",
		"struct S { a: T } fn f() -> S { chan<S>(1) as a, b; 0 } struct T { a: int }",
	} {
		told(t, s)
	}
}

// P7.1: of several of one name the first counts, a struct or an enum; whoever leads to one of its own name has itself.
func TestSameNames(t *testing.T) {
	for _, s := range []string{
		"#1i struct S { a: S } struct S { a: int }",
		"struct S { a: int } #1i struct S { a: S }",
		"#1i struct S { a: S } #2i struct S { a: S }",
		"enum S { A } #1i struct S { a: S } #2i enum S { A, B(S) }",
		"struct S { a: int } struct T { a: S } #1i struct S { a: T }",
		"#1i struct S { a: T } #2i struct T { a: S } struct S { a: int }",
		"struct T { a: S } struct S { a: int } #1i enum S { A(T) }",
		"struct T { a: int } struct S { a: T } #1i struct T { a: U } struct U { a: S }",
		"struct T { a: int } #1i struct T { a: U } struct U { a: T }",
		"struct S { a: E } enum E { A } #1i enum E { B(S) }",
	} {
		told(t, s)
	}
}

// P7.1: item by item; in each its fields, its result, its channels, and at last whether it has itself.
func TestOrder(t *testing.T) {
	for _, s := range []string{
		"#1 #2i struct S { a: S, b: &int }",
		"#1 #2 #3i struct S { a: &int, b: S, c: Cell<S> } #4 fn f(a: Box<&int>) -> int { #5 chan<&int>(1) as a, b; 0 } #6 #7i enum E { A(E), B(&int) }",
		"#1i struct S { a: S } #2 struct T { a: &int } #3i enum E { A(E) } #4 enum F { A(&int) }",
		"#1 #2 fn f(a: Box<&int>) -> &int { #3 chan<&int>(1) as a, b; { #4 chan<&int>(1) as c, d; } 0 } #5 fn g() -> &int { 0 }",
	} {
		told(t, s)
	}
}

// P7.1: as large a program as there may be, with far more rows than anybody could go through one by one.
func TestManyRows(t *testing.T) {
	name := func(i int) string { return "S" + strconv.Itoa(i) }
	var items []api.Item
	for i := range api.MaxItems {
		x := api.Item{Kind: api.IStruct, Name: name(i), At: i}
		for k := 1; k <= api.MaxFields && i+k < api.MaxItems; k++ {
			x.Fields = append(x.Fields, api.Field{Name: "a", Type: api.Type{Kind: api.TNamed, Name: name(i + k)}})
		}
		items = append(items, x)
	}
	if got := Check(api.Program{Items: items}); got != nil {
		t.Error(got)
	}
	// The last one leads back to one that is far ahead: whatever leads to it from there on has itself.
	last := len(items) - 1
	items[last].Fields = []api.Field{{Name: "a", Type: api.Type{Kind: api.TNamed, Name: name(3)}}}
	got := Check(api.Program{Items: items})
	for i, f := range got {
		if f != (api.Fault{Err: api.ErrInfinite, At: i + 3}) {
			t.Error(got)
		}
	}
	if len(got) != api.MaxItems-3 {
		t.Error(got)
	}
}
