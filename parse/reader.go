package parse

import (
	"weftway/api"
	"weftway/lex"
)

// reader reads tokens, each method those of one thing. Once a token doesn't fit, it stands at the end for good, so that no method has to ask whether one ahead of it failed.
type reader struct {
	// What is still ahead; behind the text's tokens stands one of no kind, the end.
	tokens     []lex.Token
	failed     bool
	failedAt   int
	full       bool
	statements map[string]func() api.Stmt
}

func makeReader(tokens []lex.Token, end int) *reader {
	r := &reader{tokens: append(tokens, lex.Token{At: end})}
	r.statements = r.makeStatements()
	return r
}

func (r *reader) now() lex.Token { return r.tokens[0] }

func (r *reader) atEnd() bool { return len(r.tokens) == 1 }

func (r *reader) fail() {
	if !r.failed {
		r.failed, r.failedAt = true, r.now().At
	}
	r.tokens = r.tokens[len(r.tokens)-1:]
}

// next reads any token; at the end there is none.
func (r *reader) next() lex.Token {
	t := r.now()
	if !r.atEnd() {
		r.tokens = r.tokens[1:]
	}
	return t
}

// is says whether that word, or sign, stands ahead.
func (r *reader) is(text string) bool { return !r.atEnd() && r.now().Text == text }

// may reads that word, or sign, if it stands ahead.
func (r *reader) may(text string) bool {
	stands := r.is(text)
	if stands {
		r.next()
	}
	return stands
}

// must reads words, or signs, that can't be missing.
func (r *reader) must(texts ...string) {
	for _, text := range texts {
		if !r.may(text) {
			r.fail()
		}
	}
}

// kind reads a token of that kind, and tells its text.
func (r *reader) kind(k uint8) string {
	if r.now().Kind != k {
		r.fail()
	}
	return r.next().Text
}

func (r *reader) name() string { return r.kind(lex.TName) }

func (r *reader) typeName() string { return r.kind(lex.TType) }

// atMost notes it where there are more than may be: that is told only of a text that is right up to its end.
func (r *reader) atMost(most, n int) { r.full = r.full || n > most }

// list reads what stands between commas, and the sign behind it.
func list[T any](r *reader, end string, one func() T) []T {
	var all []T
	if !r.is(end) {
		all = append(all, one())
		for r.may(",") {
			all = append(all, one())
		}
	}
	r.must(end)
	r.atMost(api.MaxFields, len(all))
	return all
}

// pair is a name that something is given to.
type pair struct {
	name  string
	value api.Expr
}

// pairs reads a list of names, each with what it is given, and tells them apart.
func (r *reader) pairs(end string, value func() api.Expr) ([]string, []api.Expr) {
	var names []string
	var values []api.Expr
	for _, x := range list(r, end, func() pair { return r.pair(value) }) {
		names = append(names, x.name)
		values = append(values, x.value)
	}
	return names, values
}

func (r *reader) pair(value func() api.Expr) pair {
	name := r.name()
	r.must("=")
	return pair{name, value()}
}
