package types

import (
	"slices"
	"strings"
	"testing"

	"weftway/api"
	"weftway/parse"
	"weftway/show"
	"weftway/tree"
)

// read is the program of a text.
func read(t *testing.T, s string) api.Program {
	t.Helper()
	p, l := parse.Program(s)
	if len(l) > 0 {
		t.Fatalf("%q: %v", s, l)
	}
	return p
}

// typed is the type of a text.
func typed(t *testing.T, s string) api.Type {
	t.Helper()
	return read(t, "fn f(a: "+s+") -> int { 0 }").Items[0].Fields[0].Type
}

func within(kind uint8, t ...api.Type) api.Type { return api.Type{Kind: kind, Args: t} }

func named(s string) api.Type { return api.Type{Kind: api.TNamed, Name: s} }

// leaves are the kinds of types that have no other one, but for TNamed.
func leaves() []uint8 { return []uint8{api.TInt, api.TBool, api.TUnit, api.TAtomic} }

// around are the kinds of types that have another one.
func around() []uint8 {
	return []uint8{api.TBox, api.TCell, api.TRc, api.TArc, api.TMutex, api.TSender, api.TReceiver, api.TRef, api.TMut}
}

// eachType hands on all types up to so deep, over these names.
func eachType(deep int, names []string, each func(t api.Type)) {
	for _, kind := range leaves() {
		each(api.Type{Kind: kind})
	}
	for _, name := range names {
		each(named(name))
	}
	if deep > 1 {
		eachType(deep-1, names, func(t api.Type) {
			for _, kind := range around() {
				each(within(kind, t))
			}
		})
	}
}

// The rows of the chapter's examples.
func TestExamples(t *testing.T) {
	for s, want := range map[string]bool{"int": true, "&mut int": false, "&S": true, "S": false, "Box<int>": false} {
		if Copied(typed(t, s)) != want {
			t.Error(s)
		}
	}
	p := read(t, "struct S { a: int, b: Box<S> }")
	for row, want := range map[string]string{
		"S by a": "int", "S by b": "Box < S >", "S by c": "-", "S by *": "-", "Box<S> by *": "S", "Mutex<S> by *": "-",
	} {
		from, step, _ := strings.Cut(row, " by ")
		if got := told(Step(p, typed(t, from), step)); got != want {
			t.Errorf("%s: %s", row, got)
		}
	}
	for row, want := range map[string]string{
		"S by b * a": "int, may be written", "&S by * a": "int, may not", "&mut Rc<S> by * * b": "Box < S >, may not",
	} {
		from, path, _ := strings.Cut(row, " by ")
		if got := walked(Walk(p, typed(t, from), strings.Fields(path))); got != want {
			t.Errorf("%s: %s", row, got)
		}
	}
}

// told is what a step answers, as a text.
func told(to api.Type, ok bool) string {
	switch {
	case ok:
		return show.Type(to)
	case !tree.SameType(to, api.Type{}):
		return "a type beside no"
	}
	return "-"
}

// walked is what a way answers, as a text.
func walked(to api.Type, writable, ok bool) string {
	switch {
	case !ok && writable:
		return "may be written, beside no"
	case !ok:
		return told(to, ok)
	case writable:
		return told(to, ok) + ", may be written"
	}
	return told(to, ok) + ", may not"
}

// P8.1: each type by the words of its text.
func TestOwnedAndCopied(t *testing.T) {
	owned, copied, total := 0, 0, 0
	eachType(5, []string{"S", "Box1"}, func(x api.Type) {
		total++
		words := strings.Fields(show.Type(x))
		wantOwned := !slices.Contains(words, "&")
		wantCopied := len(words) == 1 && slices.Contains([]string{"int", "bool", "unit"}, words[0]) || words[0] == "&" && words[1] != "mut"
		if Owned(x) != wantOwned || Copied(x) != wantCopied {
			t.Fatalf("%s: owned %t, copied %t", show.Type(x), Owned(x), Copied(x))
		}
		if wantOwned {
			owned++
		}
		if wantCopied {
			copied++
		}
	})
	if total != 44286 || owned < 10000 || copied < 4000 {
		t.Error(total, owned, copied)
	}
}

// P8.1: a reference that stands however deep, and in whichever of the Args; of types that aren't whole too.
func TestOwnedNotWhole(t *testing.T) {
	ref, mut, whole := within(api.TRef), within(api.TMut), api.Type{Kind: api.TInt}
	for i, x := range []api.Type{
		ref, mut, within(api.TInt, ref), within(api.TBox, whole, mut), within(api.TBox, mut, whole), within(0, whole, ref, whole),
		within(77, within(api.TNamed, within(api.TAtomic, whole, mut))), {Kind: api.TNamed, Name: "let", Args: []api.Type{whole, ref}},
	} {
		if Owned(x) {
			t.Error(i)
		}
	}
	for i, x := range []api.Type{
		{}, {Kind: 77}, {Name: "&"}, within(api.TBox), within(api.TCell, whole, whole), within(api.TInt, whole), within(0, api.Type{}, api.Type{Kind: 255}),
	} {
		if !Owned(x) {
			t.Error(i)
		}
	}
	deep, mixed := whole, ref
	for range 10000 {
		deep, mixed = within(api.TRc, deep), within(api.TRc, mixed)
	}
	if !Owned(deep) || Owned(mixed) {
		t.Error("deep ones")
	}
}

// P8.1: by the kind alone, whatever else a type has.
func TestCopiedByKind(t *testing.T) {
	for kind := range 256 {
		want := slices.Contains([]uint8{api.TInt, api.TBool, api.TUnit, api.TRef}, uint8(kind))
		for i, x := range []api.Type{
			{Kind: uint8(kind)}, within(uint8(kind), api.Type{Kind: api.TInt}), within(uint8(kind), within(api.TMut, named("S"))), {Kind: uint8(kind), Name: "S", Args: []api.Type{{}, {}}},
		} {
			if Copied(x) != want {
				t.Error(kind, i)
			}
		}
	}
}

// P8.1: each type beside each other one.
func TestSame(t *testing.T) {
	var all []api.Type
	eachType(3, []string{"S", "T"}, func(x api.Type) { all = append(all, x) })
	for i, x := range all {
		for k, y := range all {
			if Same(x, y) != (i == k) {
				t.Fatalf("%s, %s", show.Type(x), show.Type(y))
			}
		}
	}
	if len(all) != 546 {
		t.Error(len(all))
	}
}

// P8.1: each field counts, in types that aren't whole too; chapter 3 says what is the same.
func TestSameNotWhole(t *testing.T) {
	whole := api.Type{Kind: api.TInt}
	all := []api.Type{
		{}, whole, {Kind: 77}, {Kind: api.TInt, Name: "S"}, {Name: "S"}, {Name: "s"}, within(api.TInt, whole), within(api.TBox), within(api.TBox, whole, whole),
		within(api.TBox, whole, api.Type{Kind: api.TBool}), within(api.TBox, api.Type{Kind: api.TBool}, whole), within(api.TBox, api.Type{}), named(""), named("let"),
	}
	for i, x := range all {
		for k, y := range all {
			if Same(x, y) != (i == k) || Same(x, y) != tree.SameType(x, y) {
				t.Error(i, k)
			}
		}
	}
	if !Same(api.Type{Kind: api.TInt, Args: []api.Type{}}, whole) || !Same(within(api.TBox, whole), within(api.TBox, api.Type{Kind: api.TInt, Args: make([]api.Type, 0, 4)})) {
		t.Error("lists that are nil and empty ones are the same")
	}
}
