package clauses

import (
	"maps"
	"slices"

	"lattice/api"
	"lattice/value"
)

// set is what SET and REMOVE make: REMOVE sets properties to nothing, as layer 4 gives it no values.
func (d *doing) set() [][]api.Value {
	places := placesOf(d.Vars)
	var asks []asking
	for _, s := range d.clause.Sets {
		asks = append(asks, d.asked(s.Value, places))
	}
	var rows [][]api.Value
	for _, row := range d.Rows {
		values := all(asks, row)
		for i, s := range d.clause.Sets {
			d.change(row[places[s.Var]], s, values[i])
		}
		rows = append(rows, copied(row))
	}
	return rows
}

// change sets a property or a label of an element. What is not there is let be, but behind what may not be stored, as layer 5 has it.
func (d *doing) change(of api.Value, s api.SetItem, v api.Value) {
	if none(of) {
		return
	}
	no := api.OK
	if s.Kind == api.SetLabel {
		no = d.graph.SetLabel(of.Int, s.Key, d.clause.Kind == api.ClauseSet)
	} else {
		no = d.graph.SetProp(of.Kind == api.ValueRel, of.Int, s.Key, v)
	}
	if no != api.ErrNone {
		need(no)
	}
}

// gone is elements, by their numbers.
type gone struct{ nodes, rels map[int64]struct{} }

func nothingGone() gone {
	return gone{map[int64]struct{}{}, map[int64]struct{}{}}
}

// of are those of a value's kind; none, if it is no element.
func (x gone) of(v api.Value) map[int64]struct{} {
	switch v.Kind {
	case api.ValueNode:
		return x.nodes
	case api.ValueRel:
		return x.rels
	}
	return nil
}

func (x gone) has(v api.Value) bool {
	_, is := x.of(v)[v.Int]
	return is
}

// without is a value of its own memory, in which what is gone is nothing.
func (x gone) without(v api.Value) api.Value {
	var walk func(v *api.Value)
	walk = func(v *api.Value) {
		if x.has(*v) {
			*v = value.Null()
		}
		for i := range v.List {
			walk(&v.List[i])
		}
	}
	out := value.Copy(v)
	walk(&out)
	return out
}

// deleted is what DELETE makes.
func (d *doing) deleted() [][]api.Value {
	x := d.going()
	for id := range x.nodes {
		for _, r := range d.graph.Rels(id, 0) {
			if !x.has(api.Value{Kind: api.ValueRel, Int: r}) {
				panic(api.ErrAttached)
			}
		}
	}
	d.drop(true, x.rels)
	d.drop(false, x.nodes)
	var rows [][]api.Value
	for _, row := range d.Rows {
		out := make([]api.Value, len(row))
		for i, v := range row {
			out[i] = x.without(v)
		}
		rows = append(rows, out)
	}
	return rows
}

// going is all that goes: what the clause's Vars have, and, where it detaches, the relationships of nodes among that.
func (d *doing) going() gone {
	x := nothingGone()
	var note func(v api.Value)
	note = func(v api.Value) {
		of := x.of(v)
		if of == nil || x.has(v) {
			return
		}
		of[v.Int] = struct{}{}
		if v.Kind == api.ValueNode && d.clause.Detach {
			for _, r := range d.graph.Rels(v.Int, 0) {
				note(api.Value{Kind: api.ValueRel, Int: r})
			}
		}
	}
	places := placesOf(d.Vars)
	for _, row := range d.Rows {
		for _, name := range d.clause.Vars {
			note(row[places[name]])
		}
	}
	return x
}

// drop takes elements away that nothing hangs on; what is there no more is gone already. It begins at the end, where layer 5's lists give way most easily.
func (d *doing) drop(rel bool, ids map[int64]struct{}) {
	for _, id := range slices.Backward(slices.Sorted(maps.Keys(ids))) {
		if no := d.graph.Drop(rel, id); no != api.ErrNone {
			need(no)
		}
	}
}
