package tree

import (
	"slices"

	"hypercube/api"
	"hypercube/lex"
)

// fault is what is wrong with a text, and where.
type fault struct {
	at int
	e  api.Errno
}

// reader is tokens, of which those ahead of next are read. The last, End, is never passed, so there is always one that is next.
type reader struct {
	tokens []lex.Token
	next   int
}

// wrong gives up at the token that is next.
func (r *reader) wrong(e api.Errno) { panic(fault{at: r.at(), e: e}) }

// at tells the place of the token that is next.
func (r *reader) at() int { return r.tokens[r.next].At }

func (r *reader) seesName() bool { return r.tokens[r.next].Kind == lex.Name }

// sees asks for a sign by its text alone: no name has it, nor has the end.
func (r *reader) sees(sign string) bool { return r.tokens[r.next].Text == sign }

// take passes a sign, if it is next.
func (r *reader) take(sign string) bool {
	found := r.sees(sign)
	if found {
		r.next++
	}
	return found
}

// must passes a sign, which alone may be next.
func (r *reader) must(sign string) {
	if !r.take(sign) {
		r.wrong(api.ErrForm)
	}
}

// name passes a name, which alone may be next.
func (r *reader) name() string {
	if !r.seesName() {
		r.wrong(api.ErrForm)
	}
	r.next++
	return r.tokens[r.next-1].Text
}

// names passes one name and all that follow it.
func (r *reader) names() []string {
	out := []string{r.name()}
	for r.seesName() {
		out = append(out, r.name())
	}
	return out
}

// digit passes a digit, which alone may be next.
func (r *reader) digit() string {
	if r.take("0") {
		return "0"
	}
	r.must("1")
	return "1"
}

// enter refuses what begins neither with a name nor with one of these signs, then what begins too deep: where nothing begins, nothing is too deep.
func (r *reader) enter(level int, signs ...string) {
	if !r.seesName() && !slices.Contains(signs, r.tokens[r.next].Text) {
		r.wrong(api.ErrForm)
	}
	if level > api.MaxDepth {
		r.wrong(api.ErrDeep)
	}
}

// seesBinder tells whether a `(` NAME `:` is next that is no atom's.
func (r *reader) seesBinder() bool {
	if !r.sees("(") || r.tokens[r.next+1].Kind != lex.Name || r.tokens[r.next+2].Text != ":" {
		return false
	}
	behind := r.behind()
	return behind == "->" || behind == "*"
}

// behind tells the text of the token behind the `)` of the `(` that is next; none, if that is not closed.
func (r *reader) behind() string {
	open := 0
	for k, t := range r.tokens[r.next:] {
		switch t.Text {
		case "(":
			open++
		case ")":
			open--
		}
		if open == 0 {
			return r.tokens[r.next+k+1].Text
		}
	}
	return ""
}
