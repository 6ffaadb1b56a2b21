package loans

import (
	"strconv"
	"strings"

	"weftway/api"
)

// mark tells a loan from all that aren't the same.
type mark struct {
	place string
	alone bool
	till  int
}

// beside says of a loan whether it is none of those, and none that it was asked of earlier. It remembers marks, so that long books aren't gone through for each loan.
func beside(l []Loan) func(Loan) bool {
	marks := map[mark]struct{}{}
	for _, x := range l {
		marks[markOf(x)] = struct{}{}
	}
	return func(x Loan) bool {
		m := markOf(x)
		_, there := marks[m]
		marks[m] = struct{}{}
		return !there
	}
}

func markOf(x Loan) mark {
	return mark{place: apart(x.Place), alone: x.Alone, till: x.Till}
}

// apart is a text that no other place has: ahead of each name is its length, as a name with a dot in it would make two places read the same.
func apart(p api.Place) string {
	var text strings.Builder
	write := func(name string) {
		text.WriteString(strconv.Itoa(len(name)))
		text.WriteString(".")
		text.WriteString(name)
	}
	write(p.Name)
	for _, step := range p.Path {
		write(step)
	}
	return text.String()
}
