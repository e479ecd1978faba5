package sema

import (
	"iter"
	"math"

	"lattice/api"
)

// function is of how many expressions a call is, and whether it is an aggregate's.
type function struct {
	least, most int
	aggregate   bool
}

// library is what may be called, by name.
type library map[string]function

func functions() library {
	one, aggregate := function{least: 1, most: 1}, function{least: 1, most: 1, aggregate: true}
	return library{
		"id":       one,
		"labels":   one,
		"type":     one,
		"size":     one,
		"head":     one,
		"last":     one,
		"abs":      one,
		"keys":     one,
		"toString": one,
		"range":    {least: 2, most: 3},
		"coalesce": {least: 1, most: math.MaxInt},
		"count":    aggregate,
		"sum":      aggregate,
		"min":      aggregate,
		"max":      aggregate,
		"collect":  aggregate,
	}
}

// calls tells whether a call is of a function, or of an aggregate, that is there, with as many expressions as that one takes.
func (l library) calls(e api.Expr) bool {
	f, there := l[e.Name]
	return there && f.least <= len(e.Kids) && len(e.Kids) <= f.most && (f.aggregate || !e.Distinct)
}

func (l library) aggregate(e api.Expr) bool {
	return e.Kind == api.ExprCount || e.Kind == api.ExprCall && l[e.Name].aggregate && l.calls(e)
}

// used gives up with what is wrong first with an expression.
func (l library) used(e api.Expr, vars *scope) {
	for x := range inside(e) {
		switch {
		case x.Kind == api.ExprVar:
			vars.need(x.Name)
		case l.aggregate(x):
			panic(api.ErrAggregate)
		case x.Kind == api.ExprCall && !l.calls(x):
			panic(api.ErrFunction)
		}
	}
}

// inside goes over an expression and all in it, from the left, each ahead of its Kids.
func inside(e api.Expr) iter.Seq[api.Expr] {
	return func(yield func(api.Expr) bool) {
		var walk func(api.Expr) bool
		walk = func(e api.Expr) bool {
			if !yield(e) {
				return false
			}
			for _, k := range e.Kids {
				if !walk(k) {
					return false
				}
			}
			return true
		}
		walk(e)
	}
}

// conditions goes over a Where's parts, from the left. An AND without two Kids, which is none, is a part by itself.
func conditions(where api.Expr) iter.Seq[api.Expr] {
	return func(yield func(api.Expr) bool) {
		var walk func(api.Expr) bool
		walk = func(e api.Expr) bool {
			if e.Kind == api.ExprBin && e.Name == "AND" && len(e.Kids) == 2 {
				return walk(e.Kids[0]) && walk(e.Kids[1])
			}
			return yield(e)
		}
		walk(where)
	}
}
