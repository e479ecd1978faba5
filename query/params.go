package query

import (
	"lattice/api"
	"lattice/value"
	"lattice/words"
)

// checked tells ErrArg of parameters that may not be handed in, whether a query names them or not.
func checked(params []api.Param) api.Errno {
	names := map[string]struct{}{}
	for _, p := range params {
		_, again := names[p.Name]
		if again || !words.Name(p.Name) || value.Check(p.Value) != api.OK {
			return api.ErrArg
		}
		names[p.Name] = struct{}{}
	}
	return api.OK
}

// lacks tells whether a parameter of a query is not among those that are handed in.
func lacks(q api.Query, params []api.Param) bool {
	missing := named(q)
	for _, p := range params {
		delete(missing, p.Name)
	}
	return len(missing) > 0
}

// named are the names of a query's parameters.
func named(q api.Query) map[string]struct{} {
	names := map[string]struct{}{}
	var within func(api.Expr)
	within = func(e api.Expr) {
		if e.Kind == api.ExprParam {
			names[e.Name] = struct{}{}
		}
		for _, k := range e.Kids {
			within(k)
		}
	}
	for _, c := range q.Clauses {
		each(c, within)
	}
	return names
}

// each hands on the expressions that stand in a clause, of whatever kind it is: what a kind does not use is nothing, without parameters.
func each(c api.Clause, do func(api.Expr)) {
	for _, p := range c.Paths {
		for _, n := range p.Nodes {
			do(n.Props)
		}
		for _, r := range p.Rels {
			do(r.Props)
		}
	}
	for _, i := range c.Items {
		do(i.Expr)
	}
	for _, o := range c.Order {
		do(o.Expr)
	}
	for _, s := range c.Sets {
		do(s.Value)
	}
	for _, e := range [...]api.Expr{c.Where, c.Skip, c.Limit, c.Expr} {
		do(e)
	}
}
