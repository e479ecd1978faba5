package syntax

import (
	"lattice/api"
	"lattice/value"
	"lattice/words"
)

// teller puts texts behind those that are told already.
type teller func(...string)

// told grows a text; it gives up by a panic with ErrLong, if there is no room for all of it.
func told(room int, what func(teller)) string {
	var out []byte
	what(func(l ...string) {
		for _, s := range l {
			if len(s) > room-len(out) {
				panic(api.ErrLong)
			}
			out = append(out, s...)
		}
	})
	return string(out)
}

// row tells things with a text between each two.
func row[T any](put teller, between string, l []T, thing func(T)) {
	for i, x := range l {
		if i > 0 {
			put(between)
		}
		thing(x)
	}
}

func (put teller) query(q api.Query) { row(put, " ", q.Clauses, put.clause) }

func (put teller) clause(c api.Clause) {
	keywords := [...]string{"MATCH ", "UNWIND ", "WITH ", "CREATE ", "SET ", "REMOVE ", "DELETE ", "RETURN "}
	keyword := keywords[c.Kind]
	switch c.Kind {
	case api.ClauseMatch:
		put.given(c.Optional, "OPTIONAL ")
		fallthrough
	case api.ClauseCreate:
		put(keyword)
		row(put, ", ", c.Paths, put.path)
	case api.ClauseUnwind:
		put(keyword)
		put.expr(c.Expr)
		put(" AS ", words.Spell(c.As))
	case api.ClauseSet, api.ClauseRemove:
		put(keyword)
		row(put, ", ", c.Sets, func(s api.SetItem) { put.set(s, c.Kind) })
	case api.ClauseDelete:
		put.given(c.Detach, "DETACH ")
		put(keyword)
		row(put, ", ", c.Vars, put.name)
	case api.ClauseWith, api.ClauseReturn:
		put(keyword)
		put.items(c)
	}
	put.option(c.HasWhere, " WHERE ", c.Where)
}

// given tells texts, if there is what they tell.
func (put teller) given(there bool, l ...string) {
	if there {
		put(l...)
	}
}

// option tells an expression behind its keyword, if it is there.
func (put teller) option(there bool, keyword string, e api.Expr) {
	if there {
		put(keyword)
		put.expr(e)
	}
}

func (put teller) name(s string) { put(words.Spell(s)) }

// items tells what WITH and RETURN have both.
func (put teller) items(c api.Clause) {
	put.given(c.Distinct, "DISTINCT ")
	row(put, ", ", c.Items, func(i api.Item) {
		put.expr(i.Expr)
		put.given(i.As != "", " AS ", words.Spell(i.As))
	})
	put.given(len(c.Order) > 0, " ORDER BY ")
	row(put, ", ", c.Order, func(k api.SortKey) {
		put.expr(k.Expr)
		put.given(k.Desc, " DESC")
	})
	put.option(c.HasSkip, " SKIP ", c.Skip)
	put.option(c.HasLimit, " LIMIT ", c.Limit)
}

func (put teller) set(s api.SetItem, kind api.ClauseKind) {
	put.name(s.Var)
	if s.Kind == api.SetLabel {
		put(":", words.Spell(s.Key))
		return
	}
	put(".", words.Spell(s.Key))
	put.option(kind == api.ClauseSet, " = ", s.Value)
}

func (put teller) path(p api.Path) {
	for i, n := range p.Nodes {
		if i > 0 {
			put.rel(p.Rels[i-1])
		}
		put.node(n)
	}
}

func (put teller) node(n api.NodePat) {
	put("(", words.Spell(n.Var))
	for _, l := range n.Labels {
		put(":", words.Spell(l))
	}
	put.given(n.Has && (n.Var != "" || len(n.Labels) > 0), " ")
	put.option(n.Has, "", n.Props)
	put(")")
}

func (put teller) rel(r api.RelPat) {
	put.given(r.Dir < 0, "<")
	put("-")
	ahead := r.Var != "" || len(r.Types) > 0
	if ahead || r.Has {
		put("[", words.Spell(r.Var))
		put.given(len(r.Types) > 0, ":")
		row(put, "|", r.Types, put.name)
		put.given(r.Has && ahead, " ")
		put.option(r.Has, "", r.Props)
		put("]")
	}
	put("-")
	put.given(r.Dir > 0, ">")
}

func (put teller) expr(e api.Expr) {
	switch e.Kind {
	case api.ExprLiteral:
		put.literal(e.Value)
	case api.ExprParam:
		put("$", words.Spell(e.Name))
	case api.ExprVar:
		put.name(e.Name)
	case api.ExprList:
		put("[")
		row(put, ", ", e.Kids, put.expr)
		put("]")
	case api.ExprMap:
		put.mapping(e)
	case api.ExprCall:
		put(words.Spell(e.Name), "(")
		put.given(e.Distinct, "DISTINCT ")
		row(put, ", ", e.Kids, put.expr)
		put(")")
	case api.ExprCount:
		put("count(*)")
	case api.ExprNeg:
		put("-(")
		put.expr(e.Kids[0])
		put(")")
	case api.ExprNot:
		put("NOT ")
		put.kid(e.Kids[0])
	case api.ExprCase:
		put.cases(e.Kids)
	default:
		put.kid(e.Kids[0])
		put.behind(e)
	}
}

// behind tells what stands behind the first Kid of an expression that begins with one.
func (put teller) behind(e api.Expr) {
	switch e.Kind {
	case api.ExprProp:
		put(".", words.Spell(e.Name))
	case api.ExprIndex:
		put("[")
		put.expr(e.Kids[1])
		put("]")
	case api.ExprIsNull:
		put(" IS NULL")
	case api.ExprNotNull:
		put(" IS NOT NULL")
	case api.ExprLabel:
		put(":", words.Spell(e.Name))
	case api.ExprBin:
		put(" ", e.Name, " ")
		put.given(e.Name == "STARTS" || e.Name == "ENDS", "WITH ")
		put.kid(e.Kids[1])
	}
}

// kid tells a Kid that would be read as something else without brackets, or might be.
func (put teller) kid(e api.Expr) {
	switch e.Kind {
	case api.ExprBin, api.ExprNot, api.ExprNeg, api.ExprIsNull, api.ExprNotNull, api.ExprLabel:
		put("(")
		put.expr(e)
		put(")")
	default:
		put.expr(e)
	}
}

// literal leaves texts to a call that takes them however long they are.
func (put teller) literal(v api.Value) {
	if v.Kind == api.ValueText {
		put(value.Quote(v.Text))
		return
	}
	s, _ := value.Text(v)
	put(s)
}

func (put teller) mapping(e api.Expr) {
	put("{")
	for i, k := range e.Keys {
		put.given(i > 0, ", ")
		put(words.Spell(k), ": ")
		put.expr(e.Kids[i])
	}
	put("}")
}

func (put teller) cases(kids []api.Expr) {
	last := len(kids) - 1
	put("CASE")
	for i := 0; i < last; i += 2 {
		put(" WHEN ")
		put.expr(kids[i])
		put(" THEN ")
		put.expr(kids[i+1])
	}
	put(" ELSE ")
	put.expr(kids[last])
	put(" END")
}
