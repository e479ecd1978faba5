package index

import (
	"slices"

	"lattice/api"
	"lattice/graph"
)

// Change does changes, one by one; all of them, or, if one may not be, none.
func (x *Index) Change(l ...api.Change) api.Errno {
	next := x.Copy()
	if next == nil {
		return api.ErrNil
	}
	for _, c := range l {
		if e := next.change(c); e != api.OK {
			return e
		}
	}
	*x = *next
	return api.OK
}

func (x *Index) change(c api.Change) api.Errno {
	switch c.Kind {
	case api.ChangeNode:
		if !mayBe(c.Node) {
			return api.ErrArg
		}
		x.drop(c.Node.ID)
		x.put(c.Node)
	case api.ChangeDropNode:
		x.drop(c.ID)
	case api.ChangeRel, api.ChangeDropRel, api.ChangeNext:
		// The index hangs on the nodes alone.
	default:
		return api.ErrArg
	}
	return api.OK
}

// mayBe tells whether a node is in some graph that may be. If it is in any, it is in the one of it alone with the greatest next number.
func mayBe(n api.Node) bool {
	return graph.Check(api.Graph{Nodes: []api.Node{n}, NextNode: 1 << 62}) == api.OK
}

// put puts in a node that is not in the index, if it is one that should be.
func (x *Index) put(n api.Node) {
	if x.note(n) {
		x.order = slices.Insert(x.order, x.placeOf(n.ID), n.ID)
	}
}

func (x *Index) drop(id int64) {
	if _, in := x.values[id]; !in {
		return
	}
	at := x.placeOf(id)
	x.order = slices.Delete(x.order, at, at+1)
	delete(x.values, id)
}

// placeOf finds where a node stands, or would stand, whose value is kept.
func (x *Index) placeOf(id int64) int {
	this := x.entry(id)
	return place(x.order, x.entry, func(other entry) bool { return compare(other, this) < 0 })
}
