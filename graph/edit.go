package graph

import (
	"slices"
	"strings"

	"lattice/api"
	"lattice/value"
	"lattice/words"
)

// AddNode adds a node, and tells its number.
func (g *Graph) AddNode(labels []string, props []api.Prop) (int64, api.Errno) {
	switch {
	case !g.There():
		return 0, api.ErrNil
	case !allNames(labels) || !settable(props):
		return 0, api.ErrArg
	case g.full(g.nextNode):
		return 0, api.ErrMany
	}
	n := api.Node{ID: g.nextNode, Props: kept(props)}
	next := eachOnce(labels)
	for l, more := next(); more; l, more = next() {
		n.Labels = append(n.Labels, l)
	}
	g.nodes[n.ID] = n
	g.nextNode++
	return n.ID, api.OK
}

// AddRel adds a relationship, and tells its number.
func (g *Graph) AddRel(from, to int64, kind string, props []api.Prop) (int64, api.Errno) {
	switch {
	case !g.There():
		return 0, api.ErrNil
	case !words.Name(kind) || !settable(props):
		return 0, api.ErrArg
	case !g.has(false, from) || !g.has(false, to):
		return 0, api.ErrNone
	case g.full(g.nextRel):
		return 0, api.ErrMany
	}
	r := api.Rel{ID: g.nextRel, From: from, To: to, Type: kind, Props: kept(props)}
	g.rels[r.ID] = r
	g.attach(r)
	g.nextRel++
	return r.ID, api.OK
}

// SetProp sets a property of a node or a relationship; null takes it away.
func (g *Graph) SetProp(rel bool, id int64, key string, v api.Value) api.Errno {
	p := api.Prop{Key: key, Value: v}
	switch {
	case !g.There():
		return api.ErrNil
	case !settable([]api.Prop{p}):
		return api.ErrArg
	case !g.has(rel, id):
		return api.ErrNone
	}
	if rel {
		r := g.rels[id]
		r.Props = withProp(r.Props, p)
		g.rels[id] = r
	} else {
		n := g.nodes[id]
		n.Props = withProp(n.Props, p)
		g.nodes[id] = n
	}
	return api.OK
}

// SetLabel gives a node a label, or takes it away.
func (g *Graph) SetLabel(id int64, label string, on bool) api.Errno {
	switch {
	case !g.There():
		return api.ErrNil
	case !words.Name(label):
		return api.ErrArg
	case !g.has(false, id):
		return api.ErrNone
	}
	n := g.nodes[id]
	n.Labels = slices.DeleteFunc(slices.Clone(n.Labels), func(l string) bool { return l == label })
	if on {
		at, _ := slices.BinarySearch(n.Labels, label)
		n.Labels = slices.Insert(n.Labels, at, label)
	}
	g.nodes[id] = n
	return api.OK
}

// Drop takes a node or a relationship away.
func (g *Graph) Drop(rel bool, id int64) api.Errno {
	switch {
	case !g.There():
		return api.ErrNil
	case !g.has(rel, id):
		return api.ErrNone
	case !rel && len(g.from[id])+len(g.to[id]) > 0:
		return api.ErrAttached
	}
	if rel {
		g.detach(g.rels[id])
		delete(g.rels, id)
	} else {
		delete(g.nodes, id)
	}
	return api.OK
}

func (g *Graph) has(rel bool, id int64) bool {
	_, node := g.nodes[id]
	_, other := g.rels[id]
	return rel && other || !rel && node
}

// full tells whether there may be no further thing, which would get the number next.
func (g *Graph) full(next int64) bool {
	return g.size() >= api.MaxElements || next >= highest
}

// attach notes a relationship whose number is above those of all that are noted.
func (g *Graph) attach(r api.Rel) {
	g.from[r.From] = append(g.from[r.From], r.ID)
	g.to[r.To] = append(g.to[r.To], r.ID)
}

func (g *Graph) detach(r api.Rel) {
	strike(g.from, r.From, r.ID)
	strike(g.to, r.To, r.ID)
}

// strike leaves no empty list behind: nodes that are gone would have theirs for good.
func strike(m map[int64][]int64, node, id int64) {
	l := m[node]
	at, _ := slices.BinarySearch(l, id)
	m[node] = slices.Delete(l, at, at+1)
	if len(l) == 1 {
		delete(m, node)
	}
}

func allNames(l []string) bool {
	for _, s := range l {
		if !words.Name(s) {
			return false
		}
	}
	return true
}

// settable tells whether properties may be set, in any order: each key once, and null besides what may be stored.
func settable(props []api.Prop) bool {
	stood := map[string]struct{}{}
	for _, p := range props {
		if !words.Name(p.Key) || !value.Storable(p.Value) && !null(p.Value) {
			return false
		}
		stood[p.Key] = struct{}{}
	}
	return len(stood) == len(props)
}

// null is not told by the Kind alone: a value of that kind that may not be is refused, and takes nothing away.
func null(v api.Value) bool { return value.Same(v, value.Null()) }

// kept tells copies of what is left of properties, their keys rising, without those that are null.
func kept(props []api.Prop) []api.Prop {
	out := slices.DeleteFunc(copies(props, copyProp), func(p api.Prop) bool { return null(p.Value) })
	slices.SortFunc(out, func(a, b api.Prop) int { return strings.Compare(a.Key, b.Key) })
	return out
}

// withProp tells properties in a list of its own, with p in the place of the one with its key.
func withProp(props []api.Prop, p api.Prop) []api.Prop {
	at, there := slices.BinarySearchFunc(props, p.Key, func(x api.Prop, key string) int { return strings.Compare(x.Key, key) })
	out := slices.Clone(props[:at])
	if !null(p.Value) {
		out = append(out, copyProp(p))
	}
	if there {
		at++
	}
	return append(out, props[at:]...)
}

// eachOnce answers what hands out labels, rising, each once, till there are no more.
func eachOnce(labels []string) func() (string, bool) {
	rest := slices.Sorted(slices.Values(labels))
	return func() (string, bool) {
		if len(rest) == 0 {
			return "", false
		}
		first := rest[0]
		for len(rest) > 0 && rest[0] == first {
			rest = rest[1:]
		}
		return first, true
	}
}
