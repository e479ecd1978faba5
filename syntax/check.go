package syntax

import (
	"slices"
	"unicode/utf8"

	"lattice/api"
	"lattice/words"
)

// mayBe tells whether a query is that of some text. How long a text that is, is asked when it is told.
func mayBe(q api.Query) bool {
	return between(1, len(q.Clauses), api.MaxClauses) && all(q.Clauses, clauseMayBe)
}

func between(least, n, most int) bool { return least <= n && n <= most }

// all tells whether all of a list are so.
func all[T any](l []T, so func(T) bool) bool {
	return !slices.ContainsFunc(l, func(x T) bool { return !so(x) })
}

// few tells whether a list has no more things than may be in one place, and all of them are so.
func few[T any](l []T, so func(T) bool) bool {
	return len(l) <= api.MaxItems && all(l, so)
}

// some is as few, of a list that may not be empty.
func some[T any](l []T, so func(T) bool) bool { return len(l) > 0 && few(l, so) }

// clauseMayBe takes what the clause's kind uses out of it, part by part: the rest must be zero.
func clauseMayBe(c api.Clause) bool {
	rest, ok := c, true
	switch c.Kind {
	case api.ClauseMatch:
		rest.Optional = false
		ok = optionMayBe(&rest.HasWhere, &rest.Where)
		fallthrough
	case api.ClauseCreate:
		ok = ok && some(c.Paths, pathMayBe)
		rest.Paths = nil
	case api.ClauseUnwind:
		ok = exprMayBe(c.Expr) && words.Name(c.As)
		rest.Expr, rest.As = api.Expr{}, ""
	case api.ClauseWith:
		ok = optionMayBe(&rest.HasWhere, &rest.Where)
		fallthrough
	case api.ClauseReturn:
		ok = ok && some(c.Items, itemMayBe) && few(c.Order, keyMayBe)
		ok = ok && optionMayBe(&rest.HasSkip, &rest.Skip) && optionMayBe(&rest.HasLimit, &rest.Limit)
		rest.Distinct, rest.Items, rest.Order = false, nil, nil
	case api.ClauseSet:
		ok = some(c.Sets, setMayBe)
		rest.Sets = nil
	case api.ClauseRemove:
		ok = some(c.Sets, dropMayBe)
		rest.Sets = nil
	case api.ClauseDelete:
		ok = some(c.Vars, words.Name)
		rest.Detach, rest.Vars = false, nil
	default:
		return false
	}
	return ok && sameClause(rest, api.Clause{Kind: c.Kind})
}

// optionMayBe takes an expression that may be out of its clause; one that is said not to be there is left, as it must be zero.
func optionMayBe(has *bool, e *api.Expr) bool {
	if !*has {
		return true
	}
	ok := exprMayBe(*e)
	*has, *e = false, api.Expr{}
	return ok
}

func itemMayBe(i api.Item) bool { return exprMayBe(i.Expr) && nameOrNone(i.As) }

func keyMayBe(k api.SortKey) bool { return exprMayBe(k.Expr) }

func nameOrNone(s string) bool { return s == "" || words.Name(s) }

func setMayBe(s api.SetItem) bool {
	if s.Kind != api.SetProp {
		return dropMayBe(s)
	}
	ok := exprMayBe(s.Value)
	s.Value = api.Expr{}
	return ok && dropMayBe(s)
}

// dropMayBe is asked of what is changed without a value.
func dropMayBe(s api.SetItem) bool {
	known := s.Kind == api.SetProp || s.Kind == api.SetLabel
	return known && words.Name(s.Var) && words.Name(s.Key) && SameExpr(s.Value, api.Expr{})
}

func pathMayBe(p api.Path) bool {
	return len(p.Nodes) == len(p.Rels)+1 && all(p.Nodes, nodeMayBe) && few(p.Rels, relMayBe)
}

func nodeMayBe(n api.NodePat) bool {
	return nameOrNone(n.Var) && few(n.Labels, words.Name) && propsMayBe(n.Has, n.Props)
}

func relMayBe(r api.RelPat) bool {
	return nameOrNone(r.Var) && few(r.Types, words.Name) && between(-1, r.Dir, 1) && propsMayBe(r.Has, r.Props)
}

func propsMayBe(has bool, props api.Expr) bool {
	if !has {
		return SameExpr(props, api.Expr{})
	}
	return props.Kind == api.ExprMap && exprMayBe(props)
}

func exprMayBe(e api.Expr) bool { return nested(e, api.MaxDepth) }

// nested tells whether an expression may be, and is nested at most so deep.
func nested(e api.Expr, most int) bool {
	if most == 0 || !shaped(e) {
		return false
	}
	return all(e.Kids, func(k api.Expr) bool { return nested(k, most-1) })
}

// shaped tells whether an expression may be, as far as it can be told without what is in its Kids.
func shaped(e api.Expr) bool {
	ok, least, most := true, 0, 0
	rest := e
	rest.Kids = nil
	switch e.Kind {
	case api.ExprLiteral:
		ok = literal(e.Value)
		rest.Value = api.Value{}
	case api.ExprProp, api.ExprLabel:
		least, most = 1, 1
		fallthrough
	case api.ExprParam, api.ExprVar:
		ok = words.Name(e.Name)
		rest.Name = ""
	case api.ExprNot, api.ExprNeg, api.ExprIsNull, api.ExprNotNull:
		least, most = 1, 1
	case api.ExprBin:
		ok = operator(e.Name)
		rest.Name = ""
		fallthrough
	case api.ExprIndex:
		least, most = 2, 2
	case api.ExprCall:
		ok = words.Name(e.Name) && (len(e.Kids) > 0 || !e.Distinct)
		rest.Name, rest.Distinct = "", false
		most = api.MaxItems
	case api.ExprMap:
		ok = len(e.Keys) == len(e.Kids) && few(e.Keys, words.Name) && once(e.Keys)
		rest.Keys = nil
		fallthrough
	case api.ExprList:
		most = api.MaxItems
	case api.ExprCase:
		ok = len(e.Kids)%2 == 1
		least, most = 3, 2*api.MaxItems+1
	case api.ExprCount:
	default:
		return false
	}
	return ok && between(least, len(e.Kids), most) && SameExpr(rest, api.Expr{Kind: e.Kind})
}

// literal tells whether a value is written as it is.
func literal(v api.Value) bool {
	rest := api.Value{Kind: v.Kind}
	switch v.Kind {
	case api.ValueNull:
	case api.ValueBool:
		rest.Bool = v.Bool
	case api.ValueInt:
		rest.Int = v.Int
	case api.ValueText:
		rest.Text = v.Text
	default:
		return false
	}
	return sameValue(v, rest) && utf8.ValidString(v.Text)
}

// operator tells whether an operator of some level is called so.
func operator(name string) bool {
	for _, l := range operators() {
		if slices.Contains(l, name) {
			return true
		}
	}
	return false
}

// once tells whether no key stands twice.
func once(keys []string) bool {
	stood := map[string]struct{}{}
	for _, k := range keys {
		stood[k] = struct{}{}
	}
	return len(stood) == len(keys)
}
