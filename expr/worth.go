package expr

import (
	"maps"
	"slices"

	"lattice/api"
	"lattice/graph"
	"lattice/logic"
	"lattice/sema"
	"lattice/value"
)

// evaluator works expressions out at a place. What it makes shares memory with the place, and is copied where it is handed out.
type evaluator struct {
	api.Place
	graph *graph.Graph
}

// worth works out an expression that layer 4 lets be. Those that do not ask all of their Kids go first.
func (w *evaluator) worth(e api.Expr) api.Value {
	switch {
	case e.Kind == api.ExprCase:
		return w.chosen(e.Kids)
	case e.Kind == api.ExprCall && e.Name == "coalesce" && called(e) == api.OK:
		return w.something(e.Kids)
	case e.Kind == api.ExprBin:
		return w.joined(e.Name, e.Kids[0], e.Kids[1])
	}
	return w.made(e, w.all(e.Kids))
}

// made is what an expression makes of its Kids' values.
func (w *evaluator) made(e api.Expr, kids []api.Value) api.Value {
	switch e.Kind {
	case api.ExprLiteral:
		return bounded(e.Value)
	case api.ExprParam:
		return w.param(e.Name)
	case api.ExprVar:
		return w.column(e.Name)
	case api.ExprProp:
		return w.property(kids[0], e.Name)
	case api.ExprIndex:
		return indexed(kids[0], kids[1])
	case api.ExprList:
		return bounded(api.Value{Kind: api.ValueList, List: kids})
	case api.ExprMap:
		return mapped(e.Keys, kids)
	case api.ExprNot:
		return logic.Value(logic.Not(truth(kids[0])))
	case api.ExprNeg:
		return negative(kids[0])
	case api.ExprIsNull:
		return value.Bool(none(kids[0]))
	case api.ExprNotNull:
		return value.Bool(!none(kids[0]))
	case api.ExprLabel:
		return w.labelled(kids[0], e.Name)
	}
	return w.call(e, kids)
}

// all are the values of Kids, from the left.
func (w *evaluator) all(kids []api.Expr) []api.Value {
	l := make([]api.Value, len(kids))
	for i, k := range kids {
		l[i] = w.worth(k)
	}
	return l
}

func (w *evaluator) param(name string) api.Value {
	at := slices.IndexFunc(w.Params, func(p api.Param) bool { return p.Name == name })
	if at < 0 {
		panic(api.ErrParam)
	}
	return w.Params[at].Value
}

func (w *evaluator) column(name string) api.Value {
	at := slices.Index(w.Columns, name)
	if at < 0 {
		panic(api.ErrVar)
	}
	return w.Row[at]
}

func (w *evaluator) property(of api.Value, key string) api.Value {
	switch of.Kind {
	case api.ValueNull:
		return of
	case api.ValueNode, api.ValueRel:
		return valueOf(w.props(of), key)
	case api.ValueMap:
		return underKey(of, key)
	}
	panic(api.ErrType)
}

// props are a node's, a relationship's properties; none, if it is there no more.
func (w *evaluator) props(of api.Value) []api.Prop {
	if of.Kind == api.ValueNode {
		n, _ := w.graph.Node(of.Int)
		return n.Props
	}
	r, _ := w.graph.Rel(of.Int)
	return r.Props
}

func (w *evaluator) labelled(of api.Value, label string) api.Value {
	switch of.Kind {
	case api.ValueNull:
		return of
	case api.ValueNode:
		n, _ := w.graph.Node(of.Int)
		return value.Bool(slices.Contains(n.Labels, label))
	}
	panic(api.ErrType)
}

// chosen is what a CASE is worth.
func (w *evaluator) chosen(kids []api.Expr) api.Value {
	last := len(kids) - 1
	for i := 0; i < last; i += 2 {
		if logic.Holds(truth(w.worth(kids[i]))) {
			return w.worth(kids[i+1])
		}
	}
	return w.worth(kids[last])
}

// something is what a coalesce is worth.
func (w *evaluator) something(kids []api.Expr) api.Value {
	for _, k := range kids {
		if v := w.worth(k); !none(v) {
			return v
		}
	}
	return value.Null()
}

// hold tells whether all conditions are true, one behind the other.
func (w *evaluator) hold(parts []api.Expr) bool {
	held := 0
conditions:
	for _, part := range parts {
		switch truth(w.worth(part)) {
		case api.TruthTrue:
			held++
		default:
			// What stands behind might go wrong: it is not asked.
			break conditions
		}
	}
	return held == len(parts)
}

// joined is what an operator makes of two. The second one is asked, unless the first one says all: so it may go wrong ahead of a first one that is of a wrong kind.
func (w *evaluator) joined(operator string, left, right api.Expr) api.Value {
	a := w.worth(left)
	if a.Kind == api.ValueBool && (operator == "AND" && !a.Bool || operator == "OR" && a.Bool) {
		return a
	}
	return operated(operator, a, w.worth(right))
}

// called tells what is wrong with a call by itself, as layer 6 does, whatever its Kids are.
func called(e api.Expr) api.Errno {
	e.Kids = make([]api.Expr, len(e.Kids))
	return sema.Used(e)
}

// mapped is a map of keys to values, of equal keys the last one.
func mapped(keys []string, values []api.Value) api.Value {
	last := map[string]int{}
	for i, k := range keys {
		last[k] = i
	}
	v := api.Value{Kind: api.ValueMap, Keys: slices.Sorted(maps.Keys(last))}
	for _, k := range v.Keys {
		v.List = append(v.List, values[last[k]])
	}
	return bounded(v)
}

func indexed(of, by api.Value) api.Value {
	switch {
	case none(of) || none(by):
		return value.Null()
	case of.Kind == api.ValueList && by.Kind == api.ValueInt:
		return at(of.List, by.Int)
	case of.Kind == api.ValueMap && by.Kind == api.ValueText:
		return underKey(of, by.Text)
	}
	panic(api.ErrType)
}

// at is the n-th value, below 0 from the end; nothing, if there is none.
func at(l []api.Value, n int64) api.Value {
	if n < 0 {
		n += int64(len(l))
	}
	if n < 0 || n >= int64(len(l)) {
		return value.Null()
	}
	return l[n]
}

func underKey(of api.Value, key string) api.Value {
	if at, there := slices.BinarySearch(of.Keys, key); there {
		return of.List[at]
	}
	return value.Null()
}

func none(v api.Value) bool { return v.Kind == api.ValueNull }

// truth is the truth that a value must be, or nothing.
func truth(v api.Value) api.Truth {
	t, ok := logic.Of(v)
	if !ok {
		panic(api.ErrType)
	}
	return t
}

// bounded gives up with a value that is too great; all that make a value of others ask it.
func bounded(v api.Value) api.Value {
	if value.Check(v) != api.OK {
		panic(api.ErrGreat)
	}
	return v
}
