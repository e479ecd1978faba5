package index_test

import (
	"math/rand/v2"
	"slices"
	"testing"

	"lattice/api"
	"lattice/graph"
	"lattice/value"
)

// P12.4: what follows.

// TestChangeIsMake: what Make answers of a graph to which changes were applied is what Change makes of the index of the graph ahead, call by call.
func TestChangeIsMake(t *testing.T) {
	r := rand.New(rand.NewPCG(12, 4))
	for range 400 {
		g := chance(r)
		x, y := made(t, g), madeOf(t, g, "B", "kk")
		for range 5 {
			before, ahead := x.Copy(), g
			l, after := chanceChanges(t, r, g)
			change(t, x, l...)
			change(t, y, l...)
			alike(t, "Change and Make", x, made(t, after))
			alike(t, "of another label and key", y, madeOf(t, after, "B", "kk"))
			alike(t, "the one ahead", before, made(t, ahead))
			holds(t, x, after, pick(r, stored()...))
			if t.Failed() {
				t.Fatal(g, l)
			}
			g = after
		}
	}
}

// TestChangeByDiff: what layer 5 says that two graphs differ by makes the index of the one of that of the other.
func TestChangeByDiff(t *testing.T) {
	r := rand.New(rand.NewPCG(12, 5))
	for range 500 {
		a, b := chance(r), chance(r)
		l, e := graph.Diff(a, b)
		is(t, "Diff", e, api.OK)
		x := made(t, a)
		change(t, x, l...)
		alike(t, "Change and Make", x, made(t, b))
		holds(t, x, b)
	}
}

// TestSeekHasEachNode: Seek of a node's own value has it, and just those whose value is the same.
func TestSeekHasEachNode(t *testing.T) {
	r := rand.New(rand.NewPCG(12, 6))
	for range 500 {
		x := made(t, chance(r))
		found := 0
		for id, v := range x.Entries() {
			l := x.Seek(v)
			is(t, "Seek has it", slices.Contains(l, id), true)
			if l[0] == id {
				found += len(l)
			}
			for _, other := range l {
				w, in := x.Value(other)
				is(t, "of the same value", in && value.Same(v, w), true)
			}
		}
		nodes, _ := x.Len()
		is(t, "each one once", found, nodes)
	}
}

// TestBelowAndAbove: of a number, a text, a truth, Below with or and Above without have together each node once whose value is of its kind, and no other; so do Below without and Above with or.
func TestBelowAndAbove(t *testing.T) {
	r := rand.New(rand.NewPCG(12, 7))
	for range 500 {
		g := chance(r)
		x := made(t, g)
		for _, v := range append(stored(), value.Int(r.Int64()), value.Int(-r.Int64()), value.String("m")) {
			if v.Kind == api.ValueList {
				continue
			}
			var want []int64
			for _, n := range g.Nodes {
				if w, in := x.Value(n.ID); in && w.Kind == v.Kind {
					want = append(want, n.ID)
				}
			}
			for _, or := range []bool{false, true} {
				below, above := x.Below(v, or), x.Above(v, !or)
				is(t, "they rise", slices.IsSorted(below) && slices.IsSorted(above), true)
				are(t, "together, of "+text(v), slices.Sorted(slices.Values(append(below, above...))), want...)
			}
		}
	}
}

// TestNodesAlone: an index hangs on the nodes alone, not on relationships or next numbers.
func TestNodesAlone(t *testing.T) {
	r := rand.New(rand.NewPCG(12, 8))
	for range 300 {
		g := chance(r)
		bare := api.Graph{Nodes: g.Nodes, NextNode: highest, NextRel: highest}
		alike(t, "without relationships", made(t, g), made(t, bare))
	}
}

// TestChangeAtTheBound: as many changes in one call as there may be nodes, in an order that is not theirs.
func TestChangeAtTheBound(t *testing.T) {
	var g api.Graph
	for id := range int64(api.MaxElements) {
		g.Nodes = append(g.Nodes, with(id, value.Int((id*40503)%65521)))
	}
	g.NextNode = api.MaxElements
	l, e := graph.Diff(api.Graph{}, g)
	is(t, "Diff", e, api.OK)
	x := made(t, api.Graph{})
	change(t, x, l...)
	alike(t, "Change and Make", x, made(t, g))
	for i := range l {
		l[i] = drop(int64(i) * 3 % api.MaxElements)
	}
	change(t, x, l...)
	are(t, "all gone", entries(x))
}
