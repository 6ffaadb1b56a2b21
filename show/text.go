package show

import "strings"

// text is written token by token, in memory of its own: what is answered shares none with a name that was handed in.
type text struct {
	out strings.Builder
	gap string // what stands ahead of the next token
}

// put writes tokens.
func (t *text) put(tokens ...string) {
	for _, s := range tokens {
		t.out.WriteString(t.gap)
		t.out.WriteString(s)
		t.gap = " "
	}
}

// list writes so many elements, each by the closure, with a comma between any two.
func (t *text) list(n int, one func(i int)) {
	for i := range n {
		if i > 0 {
			t.put(",")
		}
		one(i)
	}
}

// endLine writes the byte that stands behind an item, in place of a blank.
func (t *text) endLine() {
	t.out.WriteByte('\n')
	t.gap = ""
}

func (t *text) all() string { return t.out.String() }
