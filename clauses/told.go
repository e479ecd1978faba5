package clauses

import (
	"slices"

	"lattice/api"
	"lattice/sema"
)

// kept is what WITH makes.
func (d *doing) kept() [][]api.Value {
	rows := d.told()
	if !d.clause.HasWhere {
		return rows
	}
	where := d.asked(d.clause.Where, placesOf(d.behind))
	return slices.DeleteFunc(rows, func(row []api.Value) bool { return !where.holds(row) })
}

// told is what RETURN makes, and WITH ahead of its Where.
func (d *doing) told() [][]api.Value {
	rows := d.items()
	if d.clause.Distinct {
		rows = once(rows)
	}
	d.ordered(rows)
	if d.clause.HasSkip {
		rows = rows[d.number(d.clause.Skip, len(rows)):]
	}
	if d.clause.HasLimit {
		rows = rows[:d.number(d.clause.Limit, len(rows))]
	}
	return rows
}

// ordered puts rows in the order that the clause asks for; of those that are the same there, and without one, by themselves.
func (d *doing) ordered(rows [][]api.Value) {
	var keys []asking
	var by []order
	for i, k := range d.clause.Order {
		keys = append(keys, d.asked(k.Expr, placesOf(d.behind)))
		if k.Desc {
			by = append(by, turned(byKey(i)))
		} else {
			by = append(by, byKey(i))
		}
	}
	sortedBy(rows, inTurn(append(by, byRow)...), func(row []api.Value) []api.Value { return all(keys, row) })
}

// number is what a Skip or a Limit is worth; no more than most.
func (d *doing) number(e api.Expr, most int) int {
	v := d.asked(e, nil).worth(nil)
	if v.Kind != api.ValueInt || v.Int < 0 {
		panic(api.ErrWrong)
	}
	return int(min(v.Int, int64(most)))
}

// all are what expressions are worth on a row.
func all(l []asking, row []api.Value) []api.Value {
	out := make([]api.Value, len(l))
	for i, a := range l {
		out[i] = a.worth(row)
	}
	return out
}

// items are the rows that the clause's items make: one for each row, or, with an aggregate among them, one for each group.
func (d *doing) items() [][]api.Value {
	places := placesOf(d.Vars)
	var asks []asking
	var folds []fold
	for i, x := range d.clause.Items {
		e := x.Expr
		if sema.Aggregate(e) {
			folds = append(folds, fold{i, e})
			e = kid(e)
		}
		asks = append(asks, d.asked(e, places))
	}
	var rows [][]api.Value
	for _, row := range d.Rows {
		rows = append(rows, all(asks, row))
	}
	if len(folds) > 0 {
		return grouped(rows, folds, len(asks))
	}
	return rows
}

// fold is an item that is an aggregate.
type fold struct {
	at   int
	expr api.Expr
}

// kid is what an aggregate is of; count(*) is of nothing, once a row.
func kid(e api.Expr) api.Expr {
	if e.Kind == api.ExprCount {
		return api.Expr{}
	}
	return e.Kids[0]
}

// group is rows that are the same but for what aggregates are of: what they have in common, and for each aggregate its values.
type group struct {
	common []api.Value
	values [][]api.Value
}

// grouped is a row for each group of rows, of so many items.
func grouped(rows [][]api.Value, folds []fold, items int) [][]api.Value {
	var groups []*group
	by := map[string]*group{}
	add := func(common []api.Value) *group {
		g := &group{common, make([][]api.Value, len(folds))}
		groups = append(groups, g)
		by[key(common)] = g
		return g
	}
	if len(folds) == items {
		// Nothing tells rows apart: they are one group, also where there are none.
		add(make([]api.Value, items))
	}
	for _, row := range rows {
		common, values := apart(row, folds)
		g, there := by[key(common)]
		if !there {
			g = add(common)
		}
		for i, v := range values {
			g.values[i] = append(g.values[i], v)
		}
	}
	var out [][]api.Value
	for _, g := range groups {
		for i, f := range folds {
			g.common[f.at] = folded(f.expr, g.values[i])
		}
		out = append(out, g.common)
	}
	return out
}

// apart takes the values that aggregates are of out of a row: there is nothing in their places.
func apart(row []api.Value, folds []fold) (common, values []api.Value) {
	common = slices.Clone(row)
	for _, f := range folds {
		values = append(values, row[f.at])
		common[f.at] = api.Value{}
	}
	return common, values
}
