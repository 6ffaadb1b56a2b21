package autos

import (
	"strings"
	"testing"

	"weftway/api"
	"weftway/parse"
	"weftway/show"
)

// read is the program of a text.
func read(t *testing.T, s string) api.Program {
	t.Helper()
	p, l := parse.Program(s)
	if len(l) > 0 {
		t.Fatalf("%q: %v", s, l)
	}
	return p
}

// typed is the type of a text.
func typed(t *testing.T, s string) api.Type {
	t.Helper()
	return read(t, "fn f(a: "+s+") -> int { 0 }").Items[0].Fields[0].Type
}

func within(kind uint8, t ...api.Type) api.Type { return api.Type{Kind: kind, Args: t} }

func named(s string) api.Type { return api.Type{Kind: api.TNamed, Name: s} }

// leaves are the kinds of types that have no other one, but for TNamed.
func leaves() []uint8 { return []uint8{api.TInt, api.TBool, api.TUnit, api.TAtomic} }

// around are the kinds of types that have another one.
func around() []uint8 {
	return []uint8{api.TBox, api.TCell, api.TRc, api.TArc, api.TMutex, api.TSender, api.TReceiver, api.TRef, api.TMut}
}

// eachType hands on all types up to so deep, over these names.
func eachType(deep int, names []string, each func(t api.Type)) {
	for _, kind := range leaves() {
		each(api.Type{Kind: kind})
	}
	for _, name := range names {
		each(named(name))
	}
	if deep > 1 {
		eachType(deep-1, names, func(t api.Type) {
			for _, kind := range around() {
				each(within(kind, t))
			}
		})
	}
}

// yesNo is an answer as the chapter writes it.
func yesNo(is bool) string {
	if is {
		return "yes"
	}
	return "no"
}

// told is what is said of a type: Send, Sync.
func told(p api.Program, t api.Type) string { return yesNo(Send(p, t)) + " " + yesNo(Sync(p, t)) }

// rows asks for each type of a table of rows, `types; types: answers; answers`, in a program.
func rows(t *testing.T, p api.Program, lines ...string) {
	t.Helper()
	for _, line := range lines {
		types, answers, _ := strings.Cut(line, ": ")
		kinds, wants := strings.Split(types, "; "), strings.Split(answers, "; ")
		for i, s := range kinds {
			want := wants[min(i, len(wants)-1)]
			if got := told(p, typed(t, s)); got != want {
				t.Errorf("%s: %s, want %s", s, got, want)
			}
		}
	}
}

// The rows of the chapter's examples.
func TestExamples(t *testing.T) {
	rows(t, api.Program{},
		"Box<int>; Cell<int>; Rc<int>; Arc<Cell<int>>; Arc<Mutex<Cell<int>>>; Mutex<Rc<int>>: yes yes; yes no; no no; no no; yes yes; no no",
		"&Cell<int>; &mut Cell<int>; &mut int; & &mut Cell<int>: no no; yes no; yes yes; no no",
		"Sender<Cell<int>>; Receiver<Rc<int>>: yes yes; no no")
	rows(t, read(t, "struct L { a: int, b: Box<L> }"), "L: yes yes")
	rows(t, read(t, "struct L { a: Box<M> } struct M { b: Arc<L>, c: Cell<int> }"), "L; M: no no")
}

// P9.1: each kind of the table, of what is both, of what is Send alone, of what is neither.
func TestEachKind(t *testing.T) {
	p := read(t, "struct Both { a: int } struct One { a: Cell<int> } struct None { a: Rc<int> }")
	rows(t, p,
		"int; bool; unit; Atomic: yes yes",
		"Both; One; None: yes yes; yes no; no no",
		"Box<Both>; Box<One>; Box<None>: yes yes; yes no; no no",
		"Cell<Both>; Cell<One>; Cell<None>: yes no; yes no; no no",
		"Rc<Both>; Rc<One>; Rc<None>: no no",
		"Arc<Both>; Arc<One>; Arc<None>: yes yes; no no; no no",
		"Mutex<Both>; Mutex<One>; Mutex<None>: yes yes; yes yes; no no",
		"Sender<Both>; Sender<One>; Sender<None>: yes yes; yes yes; no no",
		"Receiver<Both>; Receiver<One>; Receiver<None>: yes yes; yes yes; no no",
		"&Both; &One; &None: yes yes; no no; no no",
		"&mut Both; &mut One; &mut None: yes yes; yes no; no no")
}

// P9.1: a struct, an enum is as all that it has.
func TestTables(t *testing.T) {
	p := read(t, "struct Empty { } enum Never { } enum Bare { A, B, C } "+
		"struct First { a: Rc<int>, b: int, c: int } struct Middle { a: int, b: Rc<int>, c: int } struct Last { a: int, b: int, c: Rc<int> } "+
		"enum EFirst { A(Cell<int>), B, C(int) } enum EMiddle { A, B(Cell<int>), C(int) } enum ELast { A, B(int), C(Cell<int>) } "+
		"struct Two { a: Cell<int>, b: Rc<int> } struct Both { a: ELast, b: First } struct Lent { a: &ELast } struct Held { a: Mutex<ELast>, b: Arc<Mutex<EFirst>> } "+
		"struct Missing { a: Gone, b: Box<Gone> }")
	rows(t, p,
		"Empty; Never; Bare: yes yes",
		"First; Middle; Last: no no",
		"EFirst; EMiddle; ELast: yes no",
		"Two; Both; Lent; Held: no no; no no; no no; yes yes",
		"Gone; Missing; Rc<Gone>; Cell<Gone>; Arc<Gone>: yes yes; yes yes; no no; yes no; yes yes")
	rows(t, api.Program{}, "First; Rc<First>; Cell<First>; &mut First: yes yes; no no; yes no; yes yes")
}

// P9.1: the first struct or enum of a name counts, and a function doesn't.
func TestFirstOfName(t *testing.T) {
	p := read(t, "fn s() -> int { 0 } struct S { a: int } enum S { A(Rc<int>) } struct S { a: Rc<int> } "+
		"enum E { A(Cell<int>), A(Rc<int>) } struct E { } fn g(a: Rc<int>) -> int { 0 }")
	rows(t, p, "S; E: yes yes; no no")
	// What no text could name so.
	p.Items[0] = api.Item{Kind: api.IFn, Name: "S", Fields: []api.Field{{Name: "a", Type: within(api.TRc, api.Type{Kind: api.TInt})}}}
	p.Items[6].Name = "G"
	rows(t, p, "S; G: yes yes")
	p.Items[1], p.Items[2] = p.Items[2], p.Items[1]
	rows(t, p, "S: no no")
}

// P9.1: types that lead back to themselves are what no rule forbids.
func TestRings(t *testing.T) {
	rows(t, read(t, "struct A { a: Box<B> } struct B { a: Mutex<C> } struct C { a: Arc<A>, b: Sender<C> } enum L { A, B(Box<L>) } struct S { a: S }"),
		"A; B; C; L; S: yes yes", "&A; &mut L; Arc<C>; Cell<S>; Rc<L>: yes yes; yes yes; yes yes; yes no; no no")
	rows(t, read(t, "struct A { a: Box<B> } struct B { a: Box<C>, b: Cell<int> } struct C { a: Box<A> }"), "A; B; C: yes no", "Mutex<A>; Arc<A>; &A: yes yes; no no; no no")
	// Behind an Arc both are asked for, so that the ring has neither.
	rows(t, read(t, "struct A { a: Box<B> } struct B { a: Arc<C>, b: Cell<int> } struct C { a: Box<A> }"), "A; B; C: no no")
	// Behind a Mutex it is asked to be Send alone: what leads there is both.
	rows(t, read(t, "struct A { a: Mutex<B> } struct B { a: Box<C>, b: Cell<int> } struct C { a: Box<A> }"), "A; B; C: yes yes; yes no; yes yes")
	rows(t, read(t, "struct A { a: Box<A>, b: Box<B>, c: Box<C> } struct B { a: Box<A>, b: Box<C> } struct C { a: Box<B>, b: Rc<int> } struct D { a: Box<D>, b: Mutex<B> }"),
		"A; B; C; D: no no")
}

// P9.1: a ring is asked anew where what is asked for is another thing.
func TestAskedAnew(t *testing.T) {
	// Of A both are asked: as a field of T that it be Send, and behind the & that it be Sync; in whichever order.
	for _, fields := range []string{"a: A, b: &A", "a: &A, b: A", "a: Mutex<A>, b: &A", "a: &A, b: Mutex<A>", "a: Arc<A>, b: A", "a: A, b: Arc<A>"} {
		rows(t, read(t, "struct T { "+fields+" } struct A { a: B } struct B { a: Cell<int> }"), "T: no no")
	}
	for _, fields := range []string{"a: A, b: Mutex<A>", "a: Mutex<A>, b: A"} {
		rows(t, read(t, "struct T { "+fields+" } struct A { a: B } struct B { a: Cell<int> }"), "T: yes no")
	}
}

// Sync is never without Send: each rule that has Sync of T for it has Send of T for Send, or asks for Sync there too.
func TestSyncIsSend(t *testing.T) {
	p := read(t, "struct One { a: Cell<int>, b: &One } struct None { a: Rc<int> } struct Lock { a: Mutex<One>, b: Receiver<Lock> }")
	count := map[string]int{}
	eachType(5, []string{"One", "None", "Lock"}, func(x api.Type) {
		got := told(p, x)
		if got == "no yes" {
			t.Fatal(show.Type(x))
		}
		count[got]++
	})
	if count["yes yes"] < 5000 || count["yes no"] < 1000 || count["no no"] < 10000 {
		t.Error(count)
	}
}
