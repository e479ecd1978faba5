package sema_test

import (
	"slices"
	"strings"
	"testing"

	"lattice/api"
	"lattice/syntax"
)

func query(t *testing.T, text string) api.Query {
	t.Helper()
	q, at, e := syntax.Parse(text)
	if e != api.OK {
		t.Fatalf("%s: %v at %d", text, e, at)
	}
	return q
}

// clauseOf reads the one clause of a text.
func clauseOf(t *testing.T, text string) api.Clause {
	t.Helper()
	q := query(t, text)
	if len(q.Clauses) != 1 {
		t.Fatalf("%s: %d clauses", text, len(q.Clauses))
	}
	return q.Clauses[0]
}

func expr(t *testing.T, text string) api.Expr {
	t.Helper()
	e, at, x := syntax.ParseExpr(text)
	if x != api.OK {
		t.Fatalf("%s: %v at %d", text, x, at)
	}
	return e
}

// vars reads variables: x is of any kind, n- is a node's, r- a relationship's; a _ stands for a blank in a name.
func vars(text string) []api.Var {
	var l []api.Var
	for _, s := range strings.Fields(text) {
		name, kind := s, api.VarAny
		if rest, ok := strings.CutPrefix(s, "n-"); ok {
			name, kind = rest, api.VarNode
		} else if rest, ok := strings.CutPrefix(s, "r-"); ok {
			name, kind = rest, api.VarRel
		}
		l = append(l, api.Var{Name: strings.ReplaceAll(name, "_", " "), Kind: kind})
	}
	return l
}

func sameShape(a, b api.Shape) bool {
	return slices.EqualFunc(a.Behind, b.Behind, slices.Equal[[]api.Var]) && slices.Equal(a.Columns, b.Columns) && a.Writes == b.Writes
}

func literal(v api.Value) api.Expr { return api.Expr{Kind: api.ExprLiteral, Value: v} }

func number(n int64) api.Expr { return literal(api.Value{Kind: api.ValueInt, Int: n}) }

func text(s string) api.Expr { return literal(api.Value{Kind: api.ValueText, Text: s}) }

func variable(name string) api.Expr { return api.Expr{Kind: api.ExprVar, Name: name} }

func joined(operator string, a, b api.Expr) api.Expr {
	return api.Expr{Kind: api.ExprBin, Name: operator, Kids: []api.Expr{a, b}}
}

func not(e api.Expr) api.Expr { return api.Expr{Kind: api.ExprNot, Kids: []api.Expr{e}} }

func list(kids ...api.Expr) api.Expr { return api.Expr{Kind: api.ExprList, Kids: kids} }

// nested is an expression so deep, all of which would be a Truth.
func nested(deep int) api.Expr {
	e := literal(api.Value{Kind: api.ValueBool})
	for range deep - 1 {
		e = not(e)
	}
	return e
}

// andFromLeft puts parts together.
func andFromLeft(parts ...api.Expr) api.Expr {
	e := parts[0]
	for _, p := range parts[1:] {
		e = joined("AND", e, p)
	}
	return e
}

func sameExprs(a, b []api.Expr) bool { return slices.EqualFunc(a, b, syntax.SameExpr) }

// refusedExprs are expressions that layer 4 refuses, one for each reason, each with what would be fine else.
func refusedExprs() map[string]api.Expr {
	yes := api.Value{Kind: api.ValueBool, Bool: true}
	long := strings.Repeat("n", api.MaxName+1)
	return map[string]api.Expr{
		"no kind below":          {Kind: -1},
		"no kind above":          {Kind: api.ExprCase + 1},
		"a literal with a name":  {Value: yes, Name: "x"},
		"a literal with a Kid":   {Value: yes, Kids: []api.Expr{number(1)}},
		"a literal with a key":   {Value: yes, Keys: []string{"k"}},
		"a literal Distinct":     {Value: yes, Distinct: true},
		"a literal of two kinds": literal(api.Value{Kind: api.ValueBool, Int: 1}),
		"a list as a literal":    literal(api.Value{Kind: api.ValueList}),
		"a node as a literal":    literal(api.Value{Kind: api.ValueNode}),
		"no UTF-8":               text("\xff"),
		"a variable of no name":  variable(""),
		"a variable too long":    variable(long),
		"a variable with a Kid":  {Kind: api.ExprVar, Name: "x", Kids: []api.Expr{variable("n")}},
		"a variable of a value":  {Kind: api.ExprVar, Name: "x", Value: yes},
		"a parameter of no name": {Kind: api.ExprParam},
		"a parameter of byte 0":  {Kind: api.ExprParam, Name: "\x00"},
		"a property of nothing":  {Kind: api.ExprProp, Name: "k"},
		"a property of two":      {Kind: api.ExprProp, Name: "k", Kids: []api.Expr{variable("n"), variable("n")}},
		"a property of no name":  {Kind: api.ExprProp, Kids: []api.Expr{variable("n")}},
		"a label of nothing":     {Kind: api.ExprLabel, Name: "k"},
		"a label of no name":     {Kind: api.ExprLabel, Kids: []api.Expr{variable("n")}},
		"not nothing":            {Kind: api.ExprNot},
		"not two":                {Kind: api.ExprNot, Kids: []api.Expr{literal(yes), literal(yes)}},
		"is nothing null":        {Kind: api.ExprIsNull},
		"are two not null":       {Kind: api.ExprNotNull, Kids: []api.Expr{literal(yes), literal(yes)}},
		"minus nothing":          {Kind: api.ExprNeg},
		"AND of none":            {Kind: api.ExprBin, Name: "AND"},
		"AND of one":             {Kind: api.ExprBin, Name: "AND", Kids: []api.Expr{literal(yes)}},
		"AND of three":           {Kind: api.ExprBin, Name: "AND", Kids: []api.Expr{literal(yes), literal(yes), literal(yes)}},
		"IN of none":             {Kind: api.ExprBin, Name: "IN"},
		"= of one":               {Kind: api.ExprBin, Name: "=", Kids: []api.Expr{literal(yes)}},
		"no operator":            joined("and", literal(yes), literal(yes)),
		"no operator at all":     joined("", literal(yes), literal(yes)),
		"an index of one":        {Kind: api.ExprIndex, Kids: []api.Expr{variable("n")}},
		"a map of unlike lists":  {Kind: api.ExprMap, Keys: []string{"k"}},
		"a key twice":            {Kind: api.ExprMap, Keys: []string{"k", "k"}, Kids: []api.Expr{number(1), number(1)}},
		"a call of no name":      {Kind: api.ExprCall, Kids: []api.Expr{number(1)}},
		"a call Distinct":        {Kind: api.ExprCall, Name: "count", Distinct: true},
		"a count of a Kid":       {Kind: api.ExprCount, Kids: []api.Expr{variable("x")}},
		"a CASE of none":         {Kind: api.ExprCase},
		"a CASE of two":          {Kind: api.ExprCase, Kids: []api.Expr{literal(yes), literal(yes)}},
		"too deep":               nested(api.MaxDepth + 1),
		"too many":               list(slices.Repeat([]api.Expr{number(1)}, api.MaxItems+1)...),
		"a flaw within a list":   joined("IN", number(1), list(number(1), text("\xff"))),
		"a flaw within a list 2": joined("IN", number(1), list(number(1), api.Expr{Value: yes, Name: "x"})),
		"a list with a name":     joined("IN", number(1), api.Expr{Kind: api.ExprList, Name: "x", Kids: []api.Expr{number(1)}}),
		"a list too deep": func() api.Expr {
			e := joined("IN", number(1), list(number(1)))
			for range api.MaxDepth - 2 {
				e = not(e)
			}
			return e
		}(),
	}
}

// clausesOf are clauses that have an expression, each in another place.
func clausesOf(e api.Expr) map[string]api.Clause {
	props := api.Expr{Kind: api.ExprMap, Keys: []string{"k"}, Kids: []api.Expr{e}}
	one := []api.Item{{Expr: number(1), As: "one"}}
	path := func(n api.NodePat, r api.RelPat) []api.Path {
		return []api.Path{{Nodes: []api.NodePat{{}, n}, Rels: []api.RelPat{r}}}
	}
	made := api.RelPat{Types: []string{"T"}, Dir: 1}
	madeSo := api.RelPat{Types: []string{"T"}, Dir: 1, Has: true, Props: props}
	return map[string]api.Clause{
		"MATCH's node":   {Kind: api.ClauseMatch, Paths: path(api.NodePat{Has: true, Props: props}, api.RelPat{})},
		"MATCH's rel":    {Kind: api.ClauseMatch, Paths: path(api.NodePat{}, api.RelPat{Has: true, Props: props})},
		"MATCH's Where":  {Kind: api.ClauseMatch, Paths: path(api.NodePat{}, api.RelPat{}), HasWhere: true, Where: e},
		"UNWIND":         {Kind: api.ClauseUnwind, Expr: e, As: "new"},
		"WITH's item":    {Kind: api.ClauseWith, Items: []api.Item{{Expr: e, As: "new"}}},
		"WITH's Order":   {Kind: api.ClauseWith, Items: one, Order: []api.SortKey{{Expr: number(1)}, {Expr: e}}},
		"WITH's Skip":    {Kind: api.ClauseWith, Items: one, HasSkip: true, Skip: e},
		"WITH's Limit":   {Kind: api.ClauseWith, Items: one, HasLimit: true, Limit: e},
		"WITH's Where":   {Kind: api.ClauseWith, Items: one, HasWhere: true, Where: e},
		"CREATE's node":  {Kind: api.ClauseCreate, Paths: path(api.NodePat{Has: true, Props: props}, made)},
		"CREATE's rel":   {Kind: api.ClauseCreate, Paths: path(api.NodePat{}, madeSo)},
		"SET":            {Kind: api.ClauseSet, Sets: []api.SetItem{{Var: "n", Key: "k", Value: e}}},
		"RETURN's item":  {Kind: api.ClauseReturn, Items: []api.Item{{Expr: e, As: "new"}}},
		"RETURN's Order": {Kind: api.ClauseReturn, Items: one, Order: []api.SortKey{{Expr: e, Desc: true}}},
		"RETURN's Skip":  {Kind: api.ClauseReturn, Items: one, HasSkip: true, Skip: e},
		"RETURN's Limit": {Kind: api.ClauseReturn, Items: one, HasLimit: true, Limit: e},
	}
}
