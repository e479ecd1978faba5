package clauses

import (
	"slices"

	"lattice/api"
	"lattice/expr"
	"lattice/graph"
	"lattice/sema"
)

// asking is an expression that is asked on many rows. Its place has no more than the expression names: layer 7 looks at all that a place has, for each row anew.
type asking struct {
	api.Place
	graph *graph.Graph
	expr  api.Expr
	from  []int // where its columns stand in a row
}

// asked makes an expression ready to be asked on rows whose variables stand at some places.
func (d *doing) asked(e api.Expr, places map[string]int) asking {
	a := asking{graph: d.ahead, expr: e}
	a.Params = d.named(e)
	for _, name := range sema.Uses(e) {
		a.Columns = append(a.Columns, name)
		a.from = append(a.from, places[name])
	}
	return a
}

// named are the parameters that expressions name.
func (d *doing) named(l ...api.Expr) []api.Param {
	names := map[string]struct{}{}
	var within func(api.Expr)
	within = func(e api.Expr) {
		if e.Kind == api.ExprParam {
			names[e.Name] = struct{}{}
		}
		for _, k := range e.Kids {
			within(k)
		}
	}
	for _, e := range l {
		within(e)
	}
	return slices.DeleteFunc(slices.Clone(d.params), func(p api.Param) bool {
		_, is := names[p.Name]
		return !is
	})
}

// on is the place of a row.
func (a asking) on(row []api.Value) api.Place {
	p := a.Place
	p.Row = make([]api.Value, len(a.from))
	for i, at := range a.from {
		p.Row[i] = row[at]
	}
	return p
}

// worth is what the expression is worth on a row.
func (a asking) worth(row []api.Value) api.Value {
	v, no := expr.Eval(a.graph, a.on(row), a.expr)
	need(no)
	return v
}

// holds tells whether the expression, a Where, is true on a row.
func (a asking) holds(row []api.Value) bool {
	is, no := expr.True(a.graph, a.on(row), a.expr)
	need(no)
	return is
}

// props are what the expression, a pattern's map, is worth on a row; none of a pattern that has no map.
func (a asking) props(has bool, row []api.Value) []api.Prop {
	l, no := expr.Props(a.graph, a.on(row), has, a.expr)
	need(no)
	return l
}
