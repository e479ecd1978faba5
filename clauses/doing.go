package clauses

import (
	"lattice/api"
	"lattice/graph"
	"lattice/match"
)

// doing is a clause that is done to a frame and a graph. What is asked is asked on the graph ahead of the clause, whatever has been changed since.
type doing struct {
	api.Frame
	clause       api.Clause
	params       []api.Param
	graph, ahead *graph.Graph
	behind       []api.Var // the variables behind the clause
}

// actions tells how each kind of clause is done: it makes rows, in any order, but RETURN's.
func actions() map[api.ClauseKind]func(*doing) [][]api.Value {
	return map[api.ClauseKind]func(*doing) [][]api.Value{
		api.ClauseMatch:  (*doing).found,
		api.ClauseUnwind: (*doing).unwound,
		api.ClauseWith:   (*doing).kept,
		api.ClauseReturn: (*doing).told,
		api.ClauseCreate: (*doing).created,
		api.ClauseSet:    (*doing).set,
		api.ClauseRemove: (*doing).set,
		api.ClauseDelete: (*doing).deleted,
	}
}

// done does the clause; where it gives up, the graph is left as it was.
func (d *doing) done() [][]api.Value {
	ended := false
	if d.writes() {
		d.ahead = d.graph.Copy()
		defer func() {
			if !ended {
				*d.graph = *d.ahead
			}
		}()
	}
	rows := actions()[d.clause.Kind](d)
	if d.clause.Kind != api.ClauseReturn {
		sorted(rows)
	}
	ended = true
	return rows
}

func (d *doing) writes() bool {
	switch d.clause.Kind {
	case api.ClauseCreate, api.ClauseSet, api.ClauseRemove, api.ClauseDelete:
		return true
	}
	return false
}

// found is what MATCH makes.
func (d *doing) found() [][]api.Value {
	p := api.Place{Params: d.named(patterns(d.clause)...)}
	for _, v := range d.Vars {
		p.Columns = append(p.Columns, v.Name)
	}
	var rows [][]api.Value
	for _, row := range d.Rows {
		p.Row = row
		l, no := match.Find(d.ahead, p, d.clause)
		need(no)
		rows = grown(rows, l...)
	}
	return rows
}

// patterns are all expressions of a clause of MATCH.
func patterns(c api.Clause) []api.Expr {
	l := []api.Expr{c.Where}
	for _, p := range c.Paths {
		for _, n := range p.Nodes {
			l = append(l, n.Props)
		}
		for _, r := range p.Rels {
			l = append(l, r.Props)
		}
	}
	return l
}

// unwound is what UNWIND makes.
func (d *doing) unwound() [][]api.Value {
	list := d.asked(d.clause.Expr, placesOf(d.Vars))
	var rows [][]api.Value
	for _, row := range d.Rows {
		v := list.worth(row)
		if v.Kind != api.ValueList && v.Kind != api.ValueNull {
			panic(api.ErrWrong)
		}
		for _, x := range v.List {
			rows = grown(rows, append(copied(row), x))
		}
	}
	return rows
}
