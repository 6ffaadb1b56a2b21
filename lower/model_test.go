package lower

import (
	"slices"
	"strconv"
	"strings"

	"weftway/api"
)

// exprRows is what an expression becomes behind its Args, as a text: INT its number, PLACE its place, N how many Args it has, NAME its name, FN, VARIANT the numbers of what it names.
var exprRows = map[uint8]string{
	api.EInt: "const 1 INT", api.EBool: "const 2 INT", api.EUnit: "const 3 0",
	api.EUse: "use PLACE", api.EShare: "ref PLACE", api.EMut: "mut PLACE",
	api.ENeg: "unary 7", api.ENot: "unary 8",
	api.EAdd: "binary 9", api.ESub: "binary 10", api.EMul: "binary 11", api.EDiv: "binary 12", api.EMod: "binary 13",
	api.ELess: "binary 14", api.EEqual: "binary 15", api.EAnd: "binary 16", api.EOr: "binary 17",
	api.ECall: "call FN N", api.EStruct: "struct N NAME", api.EEnum: "enum VARIANT N NAME",
	api.EBox: "wrap 6", api.ECell: "wrap 7", api.ERc: "wrap 8", api.EArc: "wrap 9", api.EMutex: "wrap 10", api.EAtomic: "wrap 11",
	api.EUnbox: "unwrap 6", api.EOpen: "unwrap 10",
	api.EGet: "cellget PLACE", api.ELoad: "load PLACE", api.EClone: "clone PLACE", api.ERecv: "recv PLACE",
	api.ESet: "cellset PLACE", api.EStore: "store PLACE", api.EFetch: "fetch PLACE", api.ESend: "send PLACE",
}

// stmtRows is what a statement becomes: `to X` is a jump to where `X:` stands; what stands behind a colon is a variable or a place.
var stmtRows = map[uint8]string{
	api.SLet:    "exprs, live:name, put:name",
	api.STake:   "exprs, split, names",
	api.SAssign: "exprs, drop:place, put:place",
	api.SDo:     "exprs, live:more, put:more, dead:more",
	api.SDrop:   "drop:name",
	api.SIf:     "exprs, branch to else, body, jump to end, else:, other, end:",
	api.SWhile:  "condition:, exprs, branch to end, body, jump to condition, end:",
	api.SMatch:  "use:name, arms, end:",
	api.SScope:  "scope, body, join",
	api.SSpawn:  "exprs, spawn",
	api.SLock:   "live:name, lock, body, unlock, dead:name",
	api.SChan:   "chan, live:second, put:second, live:name, put:name",
	api.SBlock:  "body",
}

// judged is a function as the judge has it.
type judged struct {
	name      string
	params    []string
	block     []api.Stmt
	last      api.Expr
	slots     map[string]int // of variables by name, of what `e;` takes by `more` and its number
	spawns    []int          // the functions of its spawns, as they are met
	lines     []string       // in jumps the label, till all are known
	labels    map[string]int
	mores     int
	started   int
	statement int
	bounds    []int // the lines at which a statement begins or ends
}

// judge writes all functions of a program in texts.
type judge struct {
	p    api.Program
	fns  []*judged
	main int
}

func judgeOf(p api.Program) *judge {
	j := &judge{p: p}
	for _, x := range p.Items {
		if x.Kind == api.IFn {
			if x.Name == "main" {
				j.main = len(j.fns)
			}
			j.fns = append(j.fns, &judged{name: x.Name, params: namesOf(x.Fields), block: x.Body, last: x.Return})
		}
	}
	// First of all functions the spawns and the slots, and only then the lines.
	for i := 0; i < len(j.fns); i++ {
		f := j.fns[i]
		f.slots = map[string]int{}
		for _, name := range f.params {
			f.slots[name] = len(f.slots)
		}
		f.mores = 0
		j.count(f, f.block)
		f.mores = 0
	}
	for _, f := range j.fns {
		f.labels = map[string]int{}
		j.block(f, f.block)
		// The body's own variables die behind the last expression.
		behind := len(deaths(f, f.block))
		dead := slices.Clone(f.lines[len(f.lines)-behind:])
		f.lines = f.lines[:len(f.lines)-behind]
		j.expr(f, f.last)
		f.lines = append(f.lines, dead...)
		for _, name := range slices.Backward(f.params) {
			f.lines = append(f.lines, "dead "+strconv.Itoa(f.slots[name]))
		}
		f.lines = append(f.lines, "return")
		f.settle()
	}
	return j
}

// count numbers the slots and the spawns of statements.
func (j *judge) count(f *judged, l []api.Stmt) {
	make := func(names ...string) {
		for _, name := range names {
			f.slots[name] = len(f.slots)
		}
	}
	for _, s := range l {
		switch s.Op {
		case api.SLet, api.SLock:
			make(s.Name)
		case api.STake:
			make(s.Names...)
		case api.SDo:
			make("more" + strconv.Itoa(f.mores))
			f.mores++
		case api.SChan:
			make(s.Second, s.Name)
		case api.SSpawn:
			f.spawns = append(f.spawns, len(j.fns))
			j.fns = append(j.fns, &judged{name: "spawn", params: s.Names, block: s.Body, last: api.Expr{Op: api.EUnit}})
			continue
		}
		j.count(f, s.Body)
		j.count(f, s.Else)
		for _, arm := range s.Arms {
			if arm.Name != "" {
				make(arm.Name)
			}
			j.count(f, arm.Body)
		}
	}
}

// deaths are the lines at a block's end.
func deaths(f *judged, l []api.Stmt) []string {
	var lines []string
	for _, s := range l {
		var names []string
		switch s.Op {
		case api.SLet:
			names = []string{s.Name}
		case api.STake:
			names = s.Names
		case api.SChan:
			names = []string{s.Second, s.Name}
		}
		for _, name := range names {
			lines = append(lines, "dead "+strconv.Itoa(f.slots[name]))
		}
	}
	slices.Reverse(lines)
	return lines
}

func (j *judge) block(f *judged, l []api.Stmt) {
	for _, s := range l {
		f.bounds = append(f.bounds, len(f.lines))
		j.stmt(f, s)
		f.bounds = append(f.bounds, len(f.lines))
	}
	f.lines = append(f.lines, deaths(f, l)...)
}

func (j *judge) stmt(f *judged, s api.Stmt) {
	own := "#" + strconv.Itoa(f.statement)
	f.statement++
	more := "more" + strconv.Itoa(f.mores)
	if s.Op == api.SDo {
		f.mores++
	}
	for _, word := range strings.Split(stmtRows[s.Op], ", ") {
		of, what, _ := strings.Cut(word, ":")
		op, label, jumps := strings.Cut(word, " to ")
		switch {
		case jumps:
			f.lines = append(f.lines, op+" "+label+own)
		case of == "exprs":
			j.exprs(f, s.Exprs)
		case of == "body":
			j.block(f, s.Body)
		case of == "other":
			j.block(f, s.Else)
		case of == "arms":
			j.arms(f, s, own)
		case of == "else" || of == "end" || of == "condition":
			f.labels[of+own] = len(f.lines)
		case what == "place":
			f.lines = append(f.lines, of+" "+f.place(s.Place))
		case what != "":
			name := map[string]string{"name": s.Name, "second": s.Second, "more": more}[what]
			f.lines = append(f.lines, of+" "+strconv.Itoa(f.slots[name]))
		default:
			j.own(f, s, word)
		}
	}
}

// own is the line that a statement alone has.
func (j *judge) own(f *judged, s api.Stmt, word string) {
	switch word {
	case "split":
		word += " " + strconv.Itoa(len(s.Names)) + " " + s.Name
	case "spawn":
		word += " " + strconv.Itoa(f.spawns[f.started]) + " " + strconv.Itoa(len(s.Names))
		f.started++
	case "lock":
		word += " " + f.place(s.Place) + " " + strconv.Itoa(f.slots[s.Name])
	case "chan":
		word += " " + strconv.FormatInt(s.Int, 10)
	case "names":
		for _, name := range s.Names {
			slot := strconv.Itoa(f.slots[name])
			f.lines = append(f.lines, "live "+slot, "put "+slot)
		}
		return
	}
	f.lines = append(f.lines, word)
}

func (j *judge) arms(f *judged, s api.Stmt, own string) {
	var labels []string
	for _, v := range j.item(api.IEnum, s.Second).Fields {
		labels = append(labels, v.Name+own)
	}
	f.lines = append(f.lines, "switch "+strings.Join(labels, ",")+" "+s.Second)
	for _, arm := range s.Arms {
		f.labels[arm.Variant+own] = len(f.lines)
		slot := strconv.Itoa(f.slots[arm.Name])
		if arm.Name != "" {
			f.lines = append(f.lines, "live "+slot, "put "+slot)
		}
		j.block(f, arm.Body)
		if arm.Name != "" {
			f.lines = append(f.lines, "dead "+slot)
		}
		f.lines = append(f.lines, "jump end"+own)
	}
}

// settle puts numbers where labels stand.
func (f *judged) settle() {
	for i, line := range f.lines {
		words := strings.Fields(line)
		for k, word := range words {
			parts := strings.Split(word, ",")
			for n, part := range parts {
				if at, ok := f.labels[part]; ok && strings.Contains(part, "#") {
					parts[n] = strconv.Itoa(at)
				}
			}
			words[k] = strings.Join(parts, ",")
		}
		f.lines[i] = strings.Join(words, " ")
	}
}

func (f *judged) place(x api.Place) string {
	text := strconv.Itoa(f.slots[x.Name])
	if len(x.Path) > 0 {
		text += " ." + strings.Join(x.Path, ".")
	}
	return text
}

func (j *judge) exprs(f *judged, l []api.Expr) {
	for _, e := range l {
		j.expr(f, e)
	}
}

func (j *judge) expr(f *judged, e api.Expr) {
	j.exprs(f, e.Args)
	words := strings.Fields(exprRows[e.Op])
	for i, word := range words {
		switch word {
		case "INT":
			words[i] = strconv.FormatInt(e.Int, 10)
		case "PLACE":
			words[i] = f.place(e.Place)
		case "N":
			words[i] = strconv.Itoa(len(e.Args))
		case "NAME":
			words[i] = e.Name
		case "FN":
			words[i] = strconv.Itoa(slices.IndexFunc(j.fns, func(x *judged) bool { return x.name == e.Name }))
		case "VARIANT":
			words[i] = strconv.Itoa(slices.Index(namesOf(j.item(api.IEnum, e.Name).Fields), e.Second))
		}
	}
	f.lines = append(f.lines, strings.Join(words, " "))
}

func (j *judge) item(kind uint8, name string) api.Item {
	return j.p.Items[slices.IndexFunc(j.p.Items, func(x api.Item) bool { return x.Kind == kind && x.Name == name })]
}

// full says whether something is too large for a unit.
func (j *judge) full() bool {
	return len(j.fns) > 200 || slices.ContainsFunc(j.fns, func(f *judged) bool {
		return len(f.lines) > api.MaxCode || len(f.slots) > api.MaxVars
	})
}
