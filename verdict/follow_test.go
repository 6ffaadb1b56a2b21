package verdict

import (
	"reflect"
	"regexp"
	"slices"
	"strings"
	"testing"

	"weftway/api"
	"weftway/borrow"
	"weftway/cross"
	"weftway/names"
	"weftway/show"
	"weftway/tables"
	"weftway/tree"
	"weftway/typing"
)

// tellsOf is what a chapter alone tells; of none of them nothing.
func tellsOf(p api.Program, chapter int) []api.Fault {
	switch chapter {
	case 6:
		return names.Check(p)
	case 7:
		return tables.Check(p)
	case 10:
		return typing.Check(p)
	case 14:
		return borrow.Check(p)
	case 15:
		return cross.Check(p)
	}
	return nil
}

// togetherOf is what is told where this chapter is the first one that tells something: what the one behind it tells, too, where the two are told together.
func togetherOf(p api.Program, chapter int) []api.Fault {
	behind := 0
	switch chapter {
	case 7:
		behind = 10
	case 14:
		behind = 15
	}
	return slices.Concat(tellsOf(p, chapter), tellsOf(p, behind))
}

// elsewhere is a text with other blanks and remarks between its tokens.
func elsewhere(d *dice, text string) string {
	blank := regexp.MustCompile(` +`)
	return pick(d, "", "\n", "// so\n") + blank.ReplaceAllStringFunc(text, func(string) string {
		return pick(d, " ", "  ", "\n", "\t ", " // fn main\n", "\n\n")
	}) + pick(d, "", "\n", " // 1")
}

// misplaced puts any numbers at the places of a tree.
func misplaced(d *dice, v reflect.Value) {
	if v.Kind() == reflect.Struct {
		if at := v.FieldByName("At"); at.IsValid() {
			at.SetInt(int64(d.below(9) - 4))
		}
	}
	eachPart(v, func(x reflect.Value) { misplaced(d, x) })
}

// P16.4: whether a program is accepted, its Stage, and the kinds of its faults don't hang on where things stand in the text.
func TestPlaces(t *testing.T) {
	d := dice(167)
	stages := map[int]int{}
	for range 400 {
		text := bare(t, numbered(&d, scatteredItems(&d)))
		p := read(t, text)
		faults, stage := Check(p), Stage(p)
		stages[stage]++
		odd := tree.Copy(p)
		misplaced(&d, reflect.ValueOf(&odd).Elem())
		for i, q := range []api.Program{tree.Erase(p), odd, read(t, elsewhere(&d, text)), read(t, show.Program(p))} {
			l := Check(q)
			if Accept(q) != Accept(p) || Stage(q) != stage || !slices.Equal(Kinds(l), Kinds(faults)) {
				t.Fatalf("%s\n%d: %v, stage %d, not %v, %d", text, i, l, Stage(q), faults, stage)
			}
			if i > 1 && !slices.Equal(errsOf(l), errsOf(faults)) {
				t.Fatalf("%s\n%d: %v, not %v", text, i, l, faults)
			}
		}
	}
	for _, stage := range append(chapters(), 0) {
		if stages[stage] < 20 {
			t.Error(stages)
		}
	}
}

func errsOf(l []api.Fault) []api.Errno {
	var errs []api.Errno
	for _, f := range l {
		errs = append(errs, f.Err)
	}
	return errs
}

// P16.5: faults of borrow and cross are told only of programs that are right so far; what these chapters have to say is told nowhere else.
func TestRightSoFar(t *testing.T) {
	d := dice(168)
	late := []api.Errno{api.ErrUninit, api.ErrLoan, api.ErrAlias, api.ErrSend}
	met, both := 0, 0
	for range 600 {
		text := bare(t, numbered(&d, scatteredItems(&d)))
		p := read(t, text)
		right := len(names.Check(p)) == 0 && len(tables.Check(p)) == 0 && len(typing.Check(p)) == 0
		kinds := Kinds(Check(p))
		isLate := slices.ContainsFunc(kinds, func(e api.Errno) bool { return slices.Contains(late, e) })
		if isLate && !right || isLate != (Stage(p) >= 14) || right != (Stage(p) == 0 || Stage(p) >= 14) {
			t.Fatalf("%s\n%v, stage %d, right so far: %t", text, kinds, Stage(p), right)
		}
		if isLate {
			met++
		}
		if isLate && !slices.Equal(kinds, Kinds(slices.Concat(borrow.Check(p), cross.Check(p)))) {
			t.Fatalf("%s\n%v", text, kinds)
		}
		if isLate && slices.Contains(kinds, api.ErrSend) && len(kinds) > 1 {
			both++
		}
	}
	if met < 100 || both < 50 {
		t.Error(met, both)
	}
	// Mending the names of a program brings to light what is behind them.
	wrong := "fn main() -> int { let v = rc(1); scope { spawn (w = v) { } } let x = v; y }"
	judged(t, wrong, read(t, wrong), []api.Fault{{Err: api.ErrName, At: strings.Index(wrong, "y }")}}, 6)
	wrong = strings.Replace(wrong, " y }", " true }", 1)
	judged(t, wrong, read(t, wrong), []api.Fault{{Err: api.ErrType, At: strings.Index(wrong, "true }")}}, 10)
	wrong = strings.Replace(wrong, "true }", "3 }", 1)
	judged(t, wrong, read(t, wrong), []api.Fault{{Err: api.ErrUninit, At: strings.Index(wrong, "v; 3")}, {Err: api.ErrSend, At: strings.Index(wrong, "v) {")}}, 14)
	wrong = strings.Replace(wrong, "let x = v; ", "", 1)
	judged(t, wrong, read(t, wrong), []api.Fault{{Err: api.ErrSend, At: strings.Index(wrong, "v) {")}}, 15)
	judged(t, wrong, read(t, strings.Replace(wrong, "rc(", "arc(", 1)), nil, 0)
}

// P16.1, P16.2: programs that may be, and that may not, as the corpus has them.
func TestKnown(t *testing.T) {
	for _, c := range []struct {
		text  string
		stage int
	}{
		{"fn main() -> int { 3 }", 0},
		{"fn main() -> int { let b = box(4); let c = unbox(b); c + 1 }", 0},
		{"fn main() -> int { let a = atomic(0); scope { spawn (r = &a) { fetch(r.*, 1); } spawn (r = &a) { fetch(r.*, 2); } } load(a) }", 0},
		{"fn main() -> int { let m = arc(mutex(0)); let out = 0; scope { let n = clone(m); spawn (k = n) { lock k.* as g { g.* = g.* + 1; } } spawn (r = &m) { lock r.*.* as g { g.* = g.* + 10; } } } lock m.* as g { out = g.*; } out }", 0},
		{"fn main() -> int { chan<int>(1) as s, r; let t = 0; scope { spawn (q = s) { send(q, 5); send(q, 6); } t = recv(r); t = t * 10 + recv(r); } t }", 0},
		{"enum Opt { No, Some(int) } fn take(o: Opt) -> int { let n = 0; match o : Opt { No => { n = 1; } Some(k) => { n = k; } } n } fn main() -> int { take(Opt.Some(8)) + take(Opt.No) }", 0},
		{"struct Pair { a: int, b: Box<int> } fn main() -> int { let p = Pair { a = 2, b = box(3) }; let n = 0; { let r = &p; n = r.*.a + r.*.b.*; } let Pair { x, y } = p; n * 10 + x + unbox(y) }", 0},
		{"fn main() -> int { let c = cell(1); set(c, get(c) + 4); get(c) }", 0},
		{"fn main() -> int { let a = rc(7); let b = clone(a); drop a; b.* }", 0},
		{"fn main() -> int { let i = 0; let s = 0; while i < 5 { i = i + 1; s = s + i; } s }", 0},
		{"fn main() -> int { let a = rc(1); let b = clone(a); scope { spawn (c = b) { let d = clone(c); } let e = clone(a); } 0 }", 15},
		{"fn main() -> int { let c = cell(0); scope { spawn (r = &c) { set(r.*, 1); } set(c, 2); } get(c) }", 15},
		{"fn main() -> int { scope { let y = box(1); spawn (r = &y) { let k = r.*.*; } } 0 }", 14},
		{"fn main() -> int { let x = box(1); let y = x; let z = x; 0 }", 14},
		{"fn main() -> int { let m = mutex(1); lock m as g { drop m; } 0 }", 14},
		{"fn main() -> int { let x = 0; scope { spawn (r = &mut x) { r.* = 1; } x = 2; } x }", 14},
		{"fn main() -> int { let b = box(5); let r = &b.*; drop b; r.* }", 14},
		{"fn main() -> int { chan<Rc<int>>(2) as s, r; let a = rc(1); let b = clone(a); send(s, b); scope { spawn (q = r) { let c = recv(q); let d = clone(c); } let e = clone(a); } 0 }", 15},
	} {
		p := read(t, c.text)
		if Stage(p) != c.stage || Accept(p) != (c.stage == 0) || len(Check(p)) == 0 != (c.stage == 0) {
			t.Errorf("%s\n%d, want %d", c.text, Stage(p), c.stage)
		}
	}
}
