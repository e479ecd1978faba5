package sema

import (
	"lattice/api"
	"lattice/syntax"
)

// clause is what a clause is asked with: the variables ahead of it, and those that are there so far.
// What a clause has not (a Where, a Skip, Props, a value) is null, as layer 4 asks for: well used with any variables.
type clause struct {
	library
	ahead, now *scope
}

// behind asks a clause, and tells the variables behind it.
func (k clause) behind(c api.Clause) *scope {
	create, with := false, false
	switch c.Kind {
	case api.ClauseCreate:
		create = true
		fallthrough
	case api.ClauseMatch:
		for _, p := range c.Paths {
			k.path(p, create)
		}
	case api.ClauseUnwind:
		k.used(c.Expr, k.ahead)
		k.now.fresh(c.As, api.VarAny)
	case api.ClauseWith:
		with = true
		fallthrough
	case api.ClauseReturn:
		k.now = scopeOf()
		k.told(c, with)
	case api.ClauseSet, api.ClauseRemove:
		for _, s := range c.Sets {
			k.set(s)
		}
	case api.ClauseDelete:
		for _, v := range c.Vars {
			if k.ahead.need(v) == api.VarAny {
				panic(api.ErrKind)
			}
		}
	}
	k.used(c.Where, k.now)
	return k.now
}

func (k clause) path(p api.Path, create bool) {
	for i, n := range p.Nodes {
		if i > 0 {
			k.rel(p.Rels[i-1], create)
		}
		k.node(n, create)
	}
}

func (k clause) node(n api.NodePat, create bool) {
	kind, there := k.now.kinds[n.Var]
	switch {
	case n.Var == "":
	case !there:
		k.now.fresh(n.Var, api.VarNode)
	case kind != api.VarNode:
		panic(api.ErrKind)
	case create && (len(n.Labels) > 0 || n.Has):
		panic(api.ErrPattern)
	}
	k.used(n.Props, k.ahead)
}

func (k clause) rel(r api.RelPat, create bool) {
	if create && (len(r.Types) != 1 || r.Dir == 0) {
		panic(api.ErrPattern)
	}
	if r.Var != "" {
		k.now.fresh(r.Var, api.VarRel)
	}
	k.used(r.Props, k.ahead)
}

// told asks what WITH and RETURN have both.
func (k clause) told(c api.Clause, with bool) {
	for _, i := range c.Items {
		k.item(i.Expr)
		name := i.As
		if name == "" {
			if with && i.Expr.Kind != api.ExprVar {
				panic(api.ErrName)
			}
			name = syntax.Text(i.Expr)
		}
		k.now.fresh(name, k.ahead.kindOf(i.Expr))
	}
	for _, o := range c.Order {
		k.used(o.Expr, k.now)
	}
	none := scopeOf()
	k.used(c.Skip, none)
	k.used(c.Limit, none)
}

// item asks an item's expression, which alone may be an aggregate, though none may be in that again.
func (k clause) item(e api.Expr) {
	if !k.aggregate(e) {
		k.used(e, k.ahead)
		return
	}
	k.called(e)
	for _, kid := range e.Kids {
		k.used(kid, k.ahead)
	}
}

func (k clause) set(s api.SetItem) {
	kind := k.ahead.need(s.Var)
	if kind != api.VarNode && (kind != api.VarRel || s.Kind == api.SetLabel) {
		panic(api.ErrKind)
	}
	k.used(s.Value, k.ahead)
}

// placed gives up with a clause that may not stand where it stands.
func placed(kind api.ClauseKind, last bool) {
	wrong := last
	switch kind {
	case api.ClauseReturn:
		wrong = !last
		fallthrough
	case api.ClauseMatch, api.ClauseUnwind, api.ClauseWith:
		if wrong {
			panic(api.ErrOrder)
		}
	}
}

func writes(kind api.ClauseKind) bool {
	switch kind {
	case api.ClauseCreate, api.ClauseSet, api.ClauseRemove, api.ClauseDelete:
		return true
	}
	return false
}
