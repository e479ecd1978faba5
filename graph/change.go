package graph

import (
	"slices"

	"lattice/api"
)

// Diff tells the changes that make b of a.
func Diff(a, b api.Graph) ([]api.Change, api.Errno) {
	if Check(a) != api.OK || Check(b) != api.OK {
		return nil, api.ErrArg
	}
	goneRels, putRels := against(a.Rels, b.Rels, relNumber, sameRel)
	goneNodes, putNodes := against(a.Nodes, b.Nodes, nodeNumber, sameNode)
	var out []api.Change
	for _, id := range goneRels {
		out = append(out, api.Change{Kind: api.ChangeDropRel, ID: id})
	}
	for _, id := range goneNodes {
		out = append(out, api.Change{Kind: api.ChangeDropNode, ID: id})
	}
	for _, n := range putNodes {
		out = append(out, api.Change{Kind: api.ChangeNode, Node: copyNode(n)})
	}
	for _, r := range putRels {
		out = append(out, api.Change{Kind: api.ChangeRel, Rel: copyRel(r)})
	}
	if a.NextNode != b.NextNode || a.NextRel != b.NextRel {
		out = append(out, api.Change{Kind: api.ChangeNext, ID: b.NextNode, Other: b.NextRel})
	}
	return out, api.OK
}

// against holds two lists that rise by numbers against each other: the numbers that a alone has, and the things of b that a has not, or not so.
func against[T any](a, b []T, number func(T) int64, same func(T, T) bool) (gone []int64, put []T) {
	for len(a) > 0 || len(b) > 0 {
		switch {
		case len(b) == 0 || len(a) > 0 && number(a[0]) < number(b[0]):
			gone = append(gone, number(a[0]))
			a = a[1:]
		case len(a) == 0 || number(b[0]) < number(a[0]):
			put = append(put, b[0])
			b = b[1:]
		default:
			if !same(a[0], b[0]) {
				put = append(put, b[0])
			}
			a, b = a[1:], b[1:]
		}
	}
	return gone, put
}

// Apply does changes, one by one. What comes of them all must be a graph that may be; what they make of it on the way need not.
func Apply(g api.Graph, l ...api.Change) (api.Graph, api.Errno) {
	if Check(g) != api.OK || slices.ContainsFunc(l, ofNoKind) {
		return api.Graph{}, api.ErrArg
	}
	p := partsOf(g)
	for _, c := range l {
		p.change(c)
	}
	if p.size() > api.MaxElements {
		return api.Graph{}, api.ErrMany
	}
	out := p.tell()
	if e := Check(out); e != api.OK {
		return api.Graph{}, e
	}
	return Copy(out), api.OK
}

func ofNoKind(c api.Change) bool {
	return c.Kind < api.ChangeNode || c.Kind > api.ChangeNext
}

func (p *parts) change(c api.Change) {
	switch c.Kind {
	case api.ChangeNode:
		p.nodes[c.Node.ID] = c.Node
	case api.ChangeRel:
		p.rels[c.Rel.ID] = c.Rel
	case api.ChangeDropNode:
		delete(p.nodes, c.ID)
	case api.ChangeDropRel:
		delete(p.rels, c.ID)
	case api.ChangeNext:
		p.nextNode, p.nextRel = c.ID, c.Other
	}
}
