package graph

import (
	"slices"

	"lattice/api"
	"lattice/value"
)

// Same tells whether graphs are the same, part by part, whether they may be or not; not so, if they have values that may not be.
func Same(a, b api.Graph) bool {
	return a.NextNode == b.NextNode && a.NextRel == b.NextRel &&
		slices.EqualFunc(a.Nodes, b.Nodes, sameNode) && slices.EqualFunc(a.Rels, b.Rels, sameRel)
}

func sameNode(a, b api.Node) bool {
	return a.ID == b.ID && slices.Equal(a.Labels, b.Labels) && slices.EqualFunc(a.Props, b.Props, sameProp)
}

func sameRel(a, b api.Rel) bool {
	return a.ID == b.ID && a.From == b.From && a.To == b.To && a.Type == b.Type && slices.EqualFunc(a.Props, b.Props, sameProp)
}

func sameProp(a, b api.Prop) bool { return a.Key == b.Key && value.Same(a.Value, b.Value) }

// Copy is the same graph in memory of its own, whether it may be or not.
func Copy(g api.Graph) api.Graph {
	g.Nodes, g.Rels = copies(g.Nodes, copyNode), copies(g.Rels, copyRel)
	return g
}

// copies keeps no list apart from an empty one, so that a copy differs in nothing from what it is of.
func copies[T any](l []T, thing func(T) T) []T {
	if l == nil {
		return nil
	}
	out := make([]T, len(l))
	for i, x := range l {
		out[i] = thing(x)
	}
	return out
}

func copyNode(n api.Node) api.Node {
	n.Labels, n.Props = slices.Clone(n.Labels), copies(n.Props, copyProp)
	return n
}

func copyRel(r api.Rel) api.Rel {
	r.Props = copies(r.Props, copyProp)
	return r
}

func copyProp(p api.Prop) api.Prop {
	p.Value = value.Copy(p.Value)
	return p
}
