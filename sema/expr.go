package sema

import (
	"iter"
	"math"

	"lattice/api"
)

// function is of how many expressions a call is, and whether it is an aggregate's.
type function struct {
	least, most int
	aggregate   bool
}

// library is what may be called, by name.
type library map[string]function

func functions() library {
	one, aggregate := function{least: 1, most: 1}, function{least: 1, most: 1, aggregate: true}
	return library{
		"id":       one,
		"labels":   one,
		"type":     one,
		"size":     one,
		"head":     one,
		"last":     one,
		"abs":      one,
		"keys":     one,
		"toString": one,
		"range":    {least: 2, most: 3},
		"coalesce": {least: 1, most: math.MaxInt},
		"count":    aggregate,
		"sum":      aggregate,
		"min":      aggregate,
		"max":      aggregate,
		"collect":  aggregate,
	}
}

// aggregate goes by a call's name alone: of how many expressions it is, is asked behind that.
func (l library) aggregate(e api.Expr) bool {
	return e.Kind == api.ExprCount || e.Kind == api.ExprCall && l[e.Name].aggregate
}

// called gives up with a call that is not of a function, or of an aggregate, that is there, with as many expressions as that one takes.
func (l library) called(e api.Expr) {
	if e.Kind != api.ExprCall {
		return
	}
	f, there := l[e.Name]
	if !there || len(e.Kids) < f.least || f.most < len(e.Kids) || e.Distinct && !f.aggregate {
		panic(api.ErrFunction)
	}
}

// used gives up with what is wrong first with an expression.
func (l library) used(e api.Expr, vars *scope) {
	for x := range inside(e) {
		if x.Kind == api.ExprVar {
			vars.need(x.Name)
		}
		if l.aggregate(x) {
			panic(api.ErrAggregate)
		}
		l.called(x)
	}
}

// inside goes over an expression and all in it, from the left, each ahead of its Kids.
func inside(e api.Expr) iter.Seq[api.Expr] {
	return func(yield func(api.Expr) bool) {
		var walk func(api.Expr) bool
		walk = func(e api.Expr) bool {
			if !yield(e) {
				return false
			}
			for _, k := range e.Kids {
				if !walk(k) {
					return false
				}
			}
			return true
		}
		walk(e)
	}
}

// conditions goes over a Where's parts, from the left. An AND without two Kids, which is none, is a part by itself.
func conditions(where api.Expr) iter.Seq[api.Expr] {
	return func(yield func(api.Expr) bool) {
		var walk func(api.Expr) bool
		walk = func(e api.Expr) bool {
			if e.Kind == api.ExprBin && e.Name == "AND" && len(e.Kids) == 2 {
				return walk(e.Kids[0]) && walk(e.Kids[1])
			}
			return yield(e)
		}
		walk(where)
	}
}
