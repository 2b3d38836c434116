package tree

import (
	"strings"
	"testing"

	"hypercube/api"
	"hypercube/sample"
)

// The chapter's grammar, line by line, without lines that are empty: another road to what may stand where. NAME is any name, END the end of the text.
const grammar = `
	filetext END
	filetext decls END
	decls decl
	decls decls decl
	decl NAME : term = term ;
	termtext term END
	names NAME
	names names NAME
	term \ names . term
	term < names > term
	term ( NAME : term ) -> term
	term ( NAME : term ) * term
	term app -> term
	term app * term
	term app
	app atom
	app app atom
	app app @ dim
	atom NAME
	atom ( term )
	atom ( term , term )
	atom ( term : term )
	atom [ ]
	atom [ elems ]
	elems elem
	elems elems , elem
	elem face
	elem face -> term
	face 1
	face eqs
	eqs eq
	eqs eqs eq
	eq ( NAME = digit )
	digit 0
	digit 1
	join meet
	join join \/ meet
	meet dim
	meet meet /\ dim
	dim NAME
	dim digit
	dim ~ dim
	dim ( join )
`

// signs are all of chapter 6.
var signs = strings.Fields(`-> /\ \/ ( ) [ ] , . : ; = \ < > @ ~ * 0 1`)

// rule is a line of the grammar: what it is, and of what.
type rule struct {
	what string
	of   []string
}

var rules = func() []rule {
	var out []rule
	for _, line := range strings.Split(strings.TrimSpace(grammar), "\n") {
		words := strings.Fields(line)
		out = append(out, rule{words[0], words[1:]})
	}
	return out
}()

// item is a rule of which some is read, from a token on.
type item struct{ rule, read, from int }

// column is the items that there are behind so many tokens.
type column struct {
	items []item
	seen  map[item]bool
}

func (c *column) add(x item) {
	if !c.seen[x] {
		c.seen[x] = true
		c.items = append(c.items, x)
	}
}

// begin tells the column ahead of all tokens.
func begin(what string) []column {
	c := column{seen: map[item]bool{}}
	for k, r := range rules {
		if r.what == what {
			c.add(item{rule: k})
		}
	}
	return complete([]column{c})
}

// complete adds to the last column what its items ask for and what those that are read make.
func complete(all []column) []column {
	here := len(all) - 1
	c := &all[here]
	for k := 0; k < len(c.items); k++ {
		x := c.items[k]
		r := rules[x.rule]
		if x.read == len(r.of) {
			for _, y := range all[x.from].items {
				if z := rules[y.rule]; y.read < len(z.of) && z.of[y.read] == r.what {
					c.add(item{y.rule, y.read + 1, y.from})
				}
			}
			continue
		}
		for n, z := range rules {
			if z.what == r.of[x.read] {
				c.add(item{rule: n, from: here})
			}
		}
	}
	return all
}

// pass tells the columns with the one behind a token more; not, if the token may not stand there.
func pass(all []column, token string) ([]column, bool) {
	next := column{seen: map[item]bool{}}
	for _, x := range all[len(all)-1].items {
		if r := rules[x.rule]; x.read < len(r.of) && r.of[x.read] == token {
			next.add(item{x.rule, x.read + 1, x.from})
		}
	}
	if len(next.items) == 0 {
		return nil, false
	}
	return complete(append(all[:len(all):len(all)], next)), true
}

// answer tells what Term or Parse answers without the trees.
func answer(what, s string) (at int, e api.Errno) {
	if what == "termtext" {
		_, at, e = Term(s)
		return at, e
	}
	_, at, e = Parse(s)
	return at, e
}

// written tells a token's text.
func written(token string) string {
	if token == "NAME" {
		return "x"
	}
	return token
}

// All texts of few tokens: each is read, or refused at the first token that may not stand there.
func TestShortTexts(t *testing.T) {
	var grow func(what string, all []column, text string, more int)
	grow = func(what string, all []column, text string, more int) {
		_, good := pass(all, "END")
		at, e := answer(what, text)
		if good && (at != 0 || e != api.OK) || !good && (at != len(text) || e != api.ErrForm) {
			t.Errorf("%s %q: %d, %d; may end there: %v", what, text, at, e, good)
		}
		if more == 0 {
			return
		}
		for _, token := range append([]string{"NAME"}, signs...) {
			longer := text + written(token) + " "
			if next, may := pass(all, token); may {
				grow(what, next, longer, more-1)
				continue
			}
			for _, tail := range []string{"", "x", ") ]", "( ;"} {
				if at, e := answer(what, longer+tail); at != len(text) || e != api.ErrForm {
					t.Errorf("%s %q: %d, %d, not refused at %d", what, longer+tail, at, e, len(text))
				}
			}
		}
	}
	grow("termtext", begin("termtext"), "", 7)
	grow("filetext", begin("filetext"), "", 7)
}

// firstWrong tells the first token, or the end, that may not stand where it stands; how many there are, if all may.
func firstWrong(what string, tokens []string) int {
	all := begin(what)
	for k, token := range append(append([]string{}, tokens...), "END") {
		next, may := pass(all, token)
		if !may {
			return k
		}
		all = next
	}
	return len(tokens) + 1
}

// Texts that are read, with a token left out, put in or put in the place of another.
func TestChangedTexts(t *testing.T) {
	for seed := range uint32(4000) {
		what, w := "termtext", writer{numbers: sample.Spread(seed*2654435761+7, 200)}
		if seed%4 == 0 {
			what = "filetext"
			w.file(1 + int(seed%3))
		} else {
			w.term(1, 12)
		}
		tokens := w.tokens
		if len(tokens) > 80 {
			continue
		}
		k, other := int(w.number())%len(tokens), append([]string{"NAME"}, signs...)[w.number()%21]
		var changed []string
		switch seed / 4 % 4 {
		case 0:
			changed = append(append(changed, tokens[:k]...), tokens[k+1:]...)
		case 1:
			changed = append(append(append(changed, tokens[:k]...), other), tokens[k:]...)
		case 2:
			changed = append(append(append(changed, tokens[:k]...), other), tokens[k+1:]...)
		default:
			changed = tokens[:k]
		}
		text := ""
		var places []int
		for _, token := range changed {
			places = append(places, len(text))
			text += written(token) + " "
		}
		places = append(places, len(text))
		wrong := firstWrong(what, changed)
		at, e := answer(what, text)
		if wrong == len(places) && (at != 0 || e != api.OK) || wrong < len(places) && (at != places[wrong] || e != api.ErrForm) {
			t.Errorf("%s %q: %d, %d; the token %d is wrong", what, text, at, e, wrong)
		}
	}
}
