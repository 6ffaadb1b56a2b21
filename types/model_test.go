package types

import (
	"strings"

	"weftway/api"
	"weftway/show"
)

// A second judge: it reads a program's and types' texts alone.

// book is for each name of a struct or enum the line that counts, its words.
type book map[string][]string

func bookOf(p api.Program) book {
	b := book{}
	for _, line := range strings.Split(show.Program(p), "\n") {
		words := strings.Fields(line)
		if len(words) > 0 && words[0] != "fn" && b[words[1]] == nil {
			b[words[1]] = words
		}
	}
	return b
}

// fields are the names of a struct's fields and the texts of their types, in turn: of any other name there is none.
func (b book) fields(name string) []string {
	words := b[name]
	if len(words) == 0 || words[0] != "struct" || words[3] == "}" {
		return nil
	}
	var out []string
	for _, part := range strings.Split(strings.Join(words[3:len(words)-1], " "), ",") {
		field, typed, _ := strings.Cut(part, ":")
		out = append(out, strings.TrimSpace(field), strings.TrimSpace(typed))
	}
	return out
}

// step is the text of the type where a step leads; none, if it leads nowhere.
func (b book) step(text, step string) (to string, writable bool) {
	for _, begins := range []string{"& mut ", "& ", "Box < ", "Rc < ", "Arc < "} {
		if rest, ok := strings.CutPrefix(text, begins); ok {
			if step != "*" {
				return "", false
			}
			if strings.HasSuffix(begins, "< ") {
				rest = strings.TrimSuffix(rest, " >")
			}
			return rest, begins == "& mut " || begins == "Box < "
		}
	}
	l := b.fields(text)
	for i := 0; i < len(l); i += 2 {
		if l[i] == step {
			return l[i+1], true
		}
	}
	return "", false
}

// walk is what Walk answers, as a text.
func (b book) walk(text string, path []string) string {
	all := true
	for _, step := range path {
		to, writable := b.step(text, step)
		if to == "" {
			return "-"
		}
		text, all = to, all && writable
	}
	if all {
		return text + ", may be written"
	}
	return text + ", may not"
}

// stepsFrom are the steps that lead somewhere.
func (b book) stepsFrom(text string) []string {
	var out []string
	for _, step := range []string{"*", "a", "b", "c"} {
		if to, _ := b.step(text, step); to != "" {
			out = append(out, step)
		}
	}
	return out
}
