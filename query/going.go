package query

import (
	"lattice/api"
	"lattice/clauses"
	"lattice/graph"
)

// going is a query that is gone through: the frame behind the clauses that are done, and the graph as they left it.
type going struct {
	api.Frame
	graph  *graph.Graph
	params []api.Param
}

// begun is a query of which nothing is wrong, ahead of its first clause. Parameters that it does not name are left out: layer 9 would look at them for each clause anew.
func begun(g api.Graph, q api.Query, params []api.Param) going {
	x := going{Frame: clauses.Start()}
	x.graph, _ = graph.Make(g)
	names := named(q)
	for _, p := range params {
		if _, is := names[p.Name]; is {
			x.params = append(x.params, p)
		}
	}
	return x
}

// through does the clauses, one behind the other, and hands on the frame behind each, up to the first that goes wrong.
func (x *going) through(q api.Query, behind func(api.Frame)) (no api.Errno) {
	var next api.Frame
clause:
	for _, c := range q.Clauses {
		next, no = clauses.Do(x.graph, x.Frame, c, x.params...)
		switch no {
		case api.OK:
			behind(next)
			x.Frame = next
		default:
			break clause
		}
	}
	return no
}

// table is the frame behind RETURN; without RETURN, which may stand last alone, it has no columns and no rows.
func (x *going) table(q api.Query) api.Table {
	var t api.Table
	if q.Clauses[len(q.Clauses)-1].Kind != api.ClauseReturn {
		return t
	}
	for _, v := range x.Vars {
		t.Columns = append(t.Columns, v.Name)
	}
	t.Rows = x.Rows
	return t
}
