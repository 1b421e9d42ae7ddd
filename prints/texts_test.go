package prints_test

import (
	"math/rand"
	"strings"
)

// rules by which texts are made: a symbol is one of these, the first of which comes to an end; a word that is no symbol is a token. Operands stand in parentheses, so that each expression can be one.
var rules = map[string]string{
	"statement": "drop;select;select;select;insert;update;delete;create;index",
	"drop":      "DROP TABLE name",
	"select":    "SELECT what FROM tables where group order limit",
	"insert":    "INSERT INTO name names VALUES rows",
	"update":    "UPDATE name SET sets where",
	"delete":    "DELETE FROM name where",
	"create":    "CREATE TABLE name ( columns )",
	"index":     "CREATE INDEX name ON name ( name )",
	"what":      "*;items;items",
	"items":     "expr as;expr as , items",
	"as":        ";AS name",
	"tables":    "table;table join;table join join",
	"table":     "name as",
	"join":      "JOIN table ON expr",
	"where":     ";WHERE expr",
	"group":     ";GROUP BY exprs;GROUP BY exprs HAVING expr",
	"order":     ";ORDER BY orders",
	"orders":    "expr down;expr down , orders",
	"down":      ";ASC;DESC",
	"limit":     ";LIMIT number;LIMIT number OFFSET number",
	"names":     ";( list )",
	"list":      "name;name , list",
	"rows":      "row;row , rows",
	"row":       "( exprs )",
	"sets":      "name = expr;name = expr , sets",
	"columns":   "column;column , column;column , column , column",
	"column":    "name type primary unique full",
	"type":      "INT;TEXT",
	"primary":   ";PRIMARY KEY",
	"unique":    ";UNIQUE",
	"full":      ";NOT NULL",
	"exprs":     "expr;expr , exprs",
	"expr":      "plain;one;one;two;two;two;in;call",
	"one":       "- ( expr );NOT ( expr );( expr ) IS NULL;( expr ) IS NOT NULL",
	"two":       "( expr ) sign ( expr )",
	"sign":      "OR;AND;=;<>;<;<=;>;>=;+;-;||;*;/;%",
	"in":        "( expr ) IN ( exprs )",
	"call":      "name ( * );name ( );name ( exprs )",
	"plain":     "name;name . name;number;'text';NULL",
	"number":    "0;1;27;9223372036854775807",
	"name":      "a;b;c1;t;count;order_;x_9;selects;lllllllllllllll9",
}

var strs = []string{"''", "'a'", "'it''s'", "''''", "'('", "'AND'", "'\x00\xff\n'", "'  a'"}

// derived: the tokens of a symbol; the first of its rules deeper than that.
func derived(r *rand.Rand, symbol string, depth int) []string {
	rule, ok := rules[symbol]
	switch {
	case symbol == "'text'":
		return []string{strs[r.Intn(len(strs))]}
	case !ok:
		return []string{symbol}
	}
	l := strings.Split(rule, ";")
	if depth <= 0 {
		l = l[:1]
	}
	var tokens []string
	for _, part := range strings.Fields(l[r.Intn(len(l))]) {
		tokens = append(tokens, derived(r, part, depth-1)...)
	}
	return tokens
}

// textOf a symbol.
func textOf(r *rand.Rand, symbol string) string {
	return strings.Join(derived(r, symbol, 4+r.Intn(10)), " ")
}
