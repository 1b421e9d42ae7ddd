package trees_test

import (
	"slices"
	"strconv"
	"strings"
	"testing"

	"folkmoot/words"
)

// grammar of the document, word by word, but for the two words of a column.
const grammar = `
statement: SELECT what FROM table { JOIN table ON expr } [ WHERE expr ]
 [ GROUP BY expr { , expr } [ HAVING expr ] ]
 [ ORDER BY expr [ ASC | DESC ] { , expr [ ASC | DESC ] } ] [ LIMIT number [ OFFSET number ] ]
 | INSERT INTO name [ ( name { , name } ) ] VALUES ( expr { , expr } ) { , ( expr { , expr } ) }
 | UPDATE name SET name = expr { , name = expr } [ WHERE expr ]
 | DELETE FROM name [ WHERE expr ]
 | CREATE TABLE name ( column { , column } )
 | DROP TABLE name
 | CREATE INDEX name ON name ( name )
what: * | expr [ AS name ] { , expr [ AS name ] }
table: name [ AS name ]
column: name INT [ PRIMARY KEY ] [ UNIQUE ] [ NOT NULL ] | name TEXT [ PRIMARY KEY ] [ UNIQUE ] [ NOT NULL ]
expr: and { OR and }
and: not { AND not }
not: NOT not | cmp
cmp: sum [ = sum | <> sum | < sum | <= sum | > sum | >= sum | IS [ NOT ] NULL | IN ( expr { , expr } ) ]
sum: prod { + prod | - prod | || prod }
prod: neg { * neg | / neg | % neg }
neg: - neg | prim
prim: number | string | NULL | name [ . name ] | name ( [ * | expr { , expr } ] ) | ( expr )
`

// rules of a grammar: the alternatives of each name, and the tokens, which are all other words.
type rules struct {
	of     map[string][][]string
	tokens []string
}

// grammarRules: those of the document's grammar, its groups as names of their own.
func grammarRules() *rules {
	g := &rules{of: map[string][][]string{}}
	left := ""
	var right []string
	for _, word := range append(strings.Fields(grammar), "end:") {
		if !strings.HasSuffix(word, ":") {
			right = append(right, word)
			continue
		}
		if left != "" {
			g.add(left, right)
		}
		left, right = strings.TrimSuffix(word, ":"), nil
	}
	for _, alternatives := range g.of {
		for _, word := range slices.Concat(alternatives...) {
			if g.of[word] == nil && !slices.Contains(g.tokens, word) {
				g.tokens = append(g.tokens, word)
			}
		}
	}
	slices.Sort(g.tokens)
	return g
}

// add the alternatives of a name.
func (g *rules) add(left string, right []string) {
	alternative := []string{}
	for at := 0; at < len(right); at++ {
		switch word := right[at]; word {
		case "|":
			g.of[left] = append(g.of[left], alternative)
			alternative = []string{}
		case "[", "{":
			size, open := 1, 1
			for ; open > 0; size++ {
				switch right[at+size] {
				case "[", "{":
					open++
				case "]", "}":
					open--
				}
			}
			group := left + "/" + strconv.Itoa(len(g.of))
			g.of[group] = [][]string{{}}
			g.add(group, right[at+1:at+size-1])
			if word == "{" {
				for i, a := range g.of[group] {
					if len(a) > 0 {
						g.of[group][i] = append(a, group)
					}
				}
			}
			alternative = append(alternative, group)
			at += size - 1
		default:
			alternative = append(alternative, word)
		}
	}
	g.of[left] = append(g.of[left], alternative)
}

// state of an alternative that is being recognized since that place.
type state struct {
	left        string
	alternative int
	seen, since int
}

// recognizer of a grammar's texts, token by token, by Earley's algorithm.
type recognizer struct {
	g     *rules
	start string
	sets  [][]state
}

func recognize(g *rules, start string) *recognizer {
	r := &recognizer{g: g, start: start, sets: [][]state{nil}}
	for i := range g.of[start] {
		r.sets[0] = append(r.sets[0], state{start, i, 0, 0})
	}
	r.close()
	return r
}

// next of a state: what it needs next; nothing, if it is at its end.
func (r *recognizer) next(s state) string {
	if right := r.g.of[s.left][s.alternative]; s.seen < len(right) {
		return right[s.seen]
	}
	return ""
}

// close the last set: with all that may begin there, and all that has ended.
func (r *recognizer) close() {
	last := len(r.sets) - 1
	empty := map[string]bool{}
	for again := true; again; { // until nothing is new: what is empty may end before it is asked for
		size := len(r.sets[last])
		for i := 0; i < len(r.sets[last]); i++ {
			s := r.sets[last][i]
			next := r.next(s)
			if next == "" {
				if s.since == last {
					empty[s.left] = true
				}
				for _, t := range slices.Clone(r.sets[s.since]) {
					if r.next(t) == s.left {
						r.put(state{t.left, t.alternative, t.seen + 1, t.since})
					}
				}
				continue
			}
			for a := range r.g.of[next] {
				r.put(state{next, a, 0, last})
			}
			if empty[next] {
				r.put(state{s.left, s.alternative, s.seen + 1, s.since})
			}
		}
		again = len(r.sets[last]) > size
	}
}

func (r *recognizer) put(s state) {
	last := len(r.sets) - 1
	if !slices.Contains(r.sets[last], s) {
		r.sets[last] = append(r.sets[last], s)
	}
}

// tokens with which a text can continue.
func (r *recognizer) tokens() []string {
	var l []string
	for _, s := range r.sets[len(r.sets)-1] {
		if next := r.next(s); next != "" && r.g.of[next] == nil && !slices.Contains(l, next) {
			l = append(l, next)
		}
	}
	slices.Sort(l)
	return l
}

// add a token with which it can continue.
func (r *recognizer) add(token string) {
	var set []state
	for _, s := range r.sets[len(r.sets)-1] {
		if r.next(s) == token {
			set = append(set, state{s.left, s.alternative, s.seen + 1, s.since})
		}
	}
	r.sets = append(r.sets, set)
	r.close()
}

// remove the last token.
func (r *recognizer) remove() { r.sets = r.sets[:len(r.sets)-1] }

// whole: is it a text?
func (r *recognizer) whole() bool {
	return slices.ContainsFunc(r.sets[len(r.sets)-1], func(s state) bool {
		return s.left == r.start && s.since == 0 && r.next(s) == ""
	})
}

func TestGrammarHasItsTokens(t *testing.T) { // that the tests below ask what they mean to
	const signs = "<= <> >= || ( ) , . * + - / % = < >"
	const keywords = "select from where group by having order limit offset join on as and or not null is in insert into values update set delete create table drop index primary key unique int text asc desc"
	want := append(strings.Fields(signs+" "+strings.ToUpper(keywords)), "name", "number", "string")
	slices.Sort(want)
	if g := grammarRules(); !slices.Equal(g.tokens, want) {
		t.Errorf("%q, not %q", g.tokens, want)
	}
	for _, s := range strings.Fields(keywords) {
		if words.Name(s) {
			t.Errorf("%s is no keyword", s)
		}
	}
}
