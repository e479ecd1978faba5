package plan

import (
	"slices"

	"lattice/api"
	"lattice/expr"
	"lattice/sema"
)

// asking is a condition that is asked on many ways. Its Place has no more than the condition names: layer 7 looks at all that a place has, each time anew.
type asking struct {
	api.Place
	cond api.Expr
	from []int // where its Columns stand in the search's row
}

// asking makes a condition ready.
func (m *maker) asking(cond api.Expr) asking {
	a := asking{cond: cond}
	a.Columns = sema.Uses(cond)
	a.Row = make([]api.Value, len(a.Columns))
	a.Params = named(m.place.Params, cond)
	for _, name := range a.Columns {
		a.from = append(a.from, m.at[name])
	}
	return a
}

// named are the parameters that an expression names.
func named(params []api.Param, e api.Expr) []api.Param {
	names := map[string]struct{}{}
	var note func(api.Expr)
	note = func(e api.Expr) {
		if e.Kind == api.ExprParam {
			names[e.Name] = struct{}{}
		}
		for _, k := range e.Kids {
			note(k)
		}
	}
	note(e)
	return slices.DeleteFunc(slices.Clone(params), func(p api.Param) bool {
		_, is := names[p.Name]
		return !is
	})
}

// holds tells whether the condition is true of what stands in the row.
func (a asking) holds(s *search) bool {
	for i, at := range a.from {
		a.Row[i] = s.row[at]
	}
	is, no := expr.True(s.graph, a.Place, a.cond)
	must(no)
	return is
}
