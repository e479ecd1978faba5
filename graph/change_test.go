package graph_test

import (
	"slices"
	"testing"

	"lattice/api"
	"lattice/graph"
	"lattice/value"
)

// P5.2

func put(n api.Node) api.Change { return api.Change{Kind: api.ChangeNode, Node: n} }

func putRel(r api.Rel) api.Change { return api.Change{Kind: api.ChangeRel, Rel: r} }

func drop(id int64) api.Change { return api.Change{Kind: api.ChangeDropNode, ID: id} }

func dropRel(id int64) api.Change { return api.Change{Kind: api.ChangeDropRel, ID: id} }

func next(node, rel int64) api.Change {
	return api.Change{Kind: api.ChangeNext, ID: node, Other: rel}
}

func isDiff(t *testing.T, what string, a, b api.Graph, want ...api.Change) {
	t.Helper()
	before, beside := graph.Copy(a), graph.Copy(b)
	got, e := graph.Diff(a, b)
	if e != api.OK || !alike(got, want) {
		t.Errorf("%s: %v, %v, not\n%v", what, e, got, want)
	}
	is(t, what+": handed in", alike(a, before) && alike(b, beside), true)
	apart(t, a, got)
	apart(t, b, got)
	g, e := graph.Apply(a, got...)
	is(t, what+": back", e == api.OK && alike(g, b), true)
}

func TestDiff(t *testing.T) {
	g := sample()
	isDiff(t, "nothing and nothing", api.Graph{}, api.Graph{})
	isDiff(t, "the same", g, sample())
	isDiff(t, "nothing, and empty lists", api.Graph{Nodes: []api.Node{{}}, NextNode: 1}, api.Graph{Nodes: []api.Node{{Labels: []string{}, Props: []api.Prop{}}}, Rels: []api.Rel{}, NextNode: 1})
	isDiff(t, "all of it", api.Graph{}, g, put(g.Nodes[0]), put(g.Nodes[1]), put(g.Nodes[2]), put(g.Nodes[3]), putRel(g.Rels[0]), putRel(g.Rels[1]), putRel(g.Rels[2]), putRel(g.Rels[3]), putRel(g.Rels[4]), next(9, 7))
	isDiff(t, "nothing of it", g, api.Graph{}, dropRel(0), dropRel(1), dropRel(4), dropRel(5), dropRel(6), drop(0), drop(2), drop(3), drop(7), next(0, 0))
	isDiff(t, "NextNode", g, with(func(g *api.Graph) { g.NextNode = 8 }), next(8, 7))
	isDiff(t, "NextRel", g, with(func(g *api.Graph) { g.NextRel = highest }), next(9, highest))
}

func TestDiffOfEachPart(t *testing.T) {
	g := sample()
	for what, f := range map[string]func(n *api.Node){
		"a label more":       func(n *api.Node) { n.Labels = append(n.Labels, "C") },
		"no labels":          func(n *api.Node) { n.Labels = nil },
		"another label":      func(n *api.Node) { n.Labels[0] = "AA" },
		"a property less":    func(n *api.Node) { n.Props = n.Props[:2] },
		"another key":        func(n *api.Node) { n.Props[0].Key = "j" },
		"another value":      func(n *api.Node) { n.Props[0].Value = value.Int(2) },
		"of another kind":    func(n *api.Node) { n.Props[0].Value = value.String("1") },
		"another value in a": func(n *api.Node) { n.Props[1].Value.List[1] = value.String("z") },
	} {
		b := with(func(g *api.Graph) { f(&g.Nodes[0]) })
		isDiff(t, what, g, b, put(b.Nodes[0]))
	}
	for what, f := range map[string]func(r *api.Rel){
		"another type":     func(r *api.Rel) { r.Type = "V" },
		"from another one": func(r *api.Rel) { r.From = 3 },
		"to another one":   func(r *api.Rel) { r.To = 0 },
		"no properties":    func(r *api.Rel) { r.Props = nil },
		"another value":    func(r *api.Rel) { r.Props[0].Value = value.Bool(false) },
	} {
		b := with(func(g *api.Graph) { f(&g.Rels[0]) })
		isDiff(t, what, g, b, putRel(b.Rels[0]))
	}
}

func TestDiffInItsOrder(t *testing.T) {
	b := with(func(g *api.Graph) {
		g.Nodes = []api.Node{g.Nodes[0], {ID: 1}, {ID: 3, Labels: []string{"N"}}, {ID: 7}, {ID: 10}}
		g.Rels = []api.Rel{{ID: 0, From: 0, To: 7, Type: "T"}, {ID: 2, From: 10, To: 1, Type: "T"}, {ID: 5, From: 3, To: 3, Type: "T"}, {ID: 8, From: 0, To: 0, Type: "T"}}
		g.NextNode, g.NextRel = 11, 9
	})
	isDiff(t, "a bit of everything", sample(), b,
		dropRel(1), dropRel(4), dropRel(6), drop(2), put(b.Nodes[1]), put(b.Nodes[2]), put(b.Nodes[3]), put(b.Nodes[4]),
		putRel(b.Rels[0]), putRel(b.Rels[1]), putRel(b.Rels[2]), putRel(b.Rels[3]), next(11, 9))
	a := sample()
	isDiff(t, "and back", b, a, dropRel(2), dropRel(8), drop(1), drop(10), put(a.Nodes[1]), put(a.Nodes[2]), put(a.Nodes[3]),
		putRel(a.Rels[0]), putRel(a.Rels[1]), putRel(a.Rels[2]), putRel(a.Rels[3]), putRel(a.Rels[4]), next(9, 7))
}

func TestDiffRefuses(t *testing.T) {
	for what, g := range bad() {
		for _, x := range [][2]api.Graph{{g, sample()}, {sample(), g}, {g, g}} {
			l, e := graph.Diff(x[0], x[1])
			is(t, what, e, api.ErrArg)
			is(t, what, len(l), 0)
		}
	}
}

func TestDiffOfManyThings(t *testing.T) {
	isDiff(t, "none of both", crowd(api.MaxElements, 0), crowd(api.MaxElements, 0))
	l, e := graph.Diff(crowd(api.MaxElements, 0), crowd(1, api.MaxElements-1))
	is(t, "many", len(l), 2*(api.MaxElements-1)+1)
	is(t, "many", e, api.OK)
	g, e := graph.Apply(crowd(api.MaxElements, 0), l...)
	is(t, "many, and on", e == api.OK && graph.Same(g, crowd(1, api.MaxElements-1)), true)
}

func isApplied(t *testing.T, what string, g, want api.Graph, l ...api.Change) {
	t.Helper()
	before, changes := graph.Copy(g), api.Graph{}
	for _, c := range l {
		changes.Nodes, changes.Rels = append(changes.Nodes, c.Node), append(changes.Rels, c.Rel)
	}
	handed := graph.Copy(changes)
	got, e := graph.Apply(g, l...)
	if e != api.OK || !alike(got, want) {
		t.Errorf("%s: %v, %v, not\n%v", what, e, got, want)
	}
	is(t, what+": handed in", alike(g, before) && alike(changes, handed), true)
	apart(t, g, got)
	apart(t, l, got)
}

func TestApplyEachKind(t *testing.T) {
	n := api.Node{ID: 5, Labels: []string{"X"}, Props: []api.Prop{{Key: "l", Value: list(value.Int(1))}}}
	r := api.Rel{ID: 3, From: 3, To: 7, Type: "X", Props: []api.Prop{prop("k", 1)}}
	again, back := n, r
	again.ID, back.ID = 2, 4
	isApplied(t, "nothing", sample(), sample())
	isApplied(t, "of nothing", api.Graph{}, api.Graph{})
	isApplied(t, "a node", sample(), with(func(g *api.Graph) { g.Nodes = slices.Insert(g.Nodes, 3, n) }), put(n))
	isApplied(t, "a node again", sample(), with(func(g *api.Graph) { g.Nodes[1] = again }), put(again))
	isApplied(t, "a relationship", sample(), with(func(g *api.Graph) { g.Rels = slices.Insert(g.Rels, 2, r) }), putRel(r))
	isApplied(t, "a relationship again", sample(), with(func(g *api.Graph) { g.Rels[2] = back }), putRel(back))
	isApplied(t, "a node goes", sample(), with(func(g *api.Graph) { g.Nodes = slices.Delete(g.Nodes, 2, 3) }), drop(3))
	isApplied(t, "a relationship goes", sample(), with(func(g *api.Graph) { g.Rels = g.Rels[1:] }), dropRel(0))
	isApplied(t, "next", sample(), with(func(g *api.Graph) { g.NextNode, g.NextRel = highest, 8 }), next(highest, 8))
	isApplied(t, "next falls", sample(), with(func(g *api.Graph) { g.NextNode = 8 }), next(8, 7))
	isApplied(t, "the first node", api.Graph{NextNode: 1}, api.Graph{Nodes: []api.Node{{}}, NextNode: 1}, put(api.Node{}))
	for _, id := range []int64{-1, 1, 4, 9, highest, -1 << 63, 1<<63 - 1} {
		isApplied(t, "a node that is not there goes", sample(), sample(), drop(id))
	}
	for _, id := range []int64{-1, 2, 3, 7, highest, -1 << 63, 1<<63 - 1} {
		isApplied(t, "a relationship that is not there goes", sample(), sample(), dropRel(id))
	}
	isApplied(t, "nothing goes", api.Graph{}, api.Graph{}, drop(0), dropRel(0))
}

// What a change's kind does not use is not looked at.
func TestApplyLooksAtWhatTheKindUses(t *testing.T) {
	all := api.Change{ID: 3, Other: -5, Node: api.Node{ID: -1, Labels: []string{""}}, Rel: api.Rel{ID: -1, Type: "\xff"}}
	as := func(k api.ChangeKind, f func(c *api.Change)) api.Change {
		c := all
		c.Kind = k
		f(&c)
		return c
	}
	isApplied(t, "a node goes", sample(), with(func(g *api.Graph) { g.Nodes = slices.Delete(g.Nodes, 2, 3) }), as(api.ChangeDropNode, func(*api.Change) {}))
	isApplied(t, "a relationship goes", sample(), with(func(g *api.Graph) { g.Rels = g.Rels[1:] }), as(api.ChangeDropRel, func(c *api.Change) { c.ID = 0 }))
	isApplied(t, "a node", sample(), with(func(g *api.Graph) { g.Nodes[3] = api.Node{ID: 7} }), as(api.ChangeNode, func(c *api.Change) { c.Node = api.Node{ID: 7} }))
	isApplied(t, "a relationship", sample(), with(func(g *api.Graph) { g.Rels[2] = api.Rel{ID: 4, Type: "T"} }), as(api.ChangeRel, func(c *api.Change) { c.Rel = api.Rel{ID: 4, Type: "T"} }))
	isApplied(t, "next", sample(), with(func(g *api.Graph) { g.NextNode, g.NextRel = 12, 13 }), as(api.ChangeNext, func(c *api.Change) { c.ID, c.Other = 12, 13 }))
}

// What comes of all changes counts, not what they make on the way.
func TestApplyOneByOne(t *testing.T) {
	a, b := api.Node{ID: 1, Labels: []string{"A"}}, api.Node{ID: 1, Labels: []string{"B"}}
	wrong := api.Node{ID: -3, Labels: []string{"b", "a"}, Props: []api.Prop{{}}}
	isApplied(t, "the last one counts", sample(), with(func(g *api.Graph) { g.Nodes = slices.Insert(g.Nodes, 1, b) }), put(a), put(b))
	isApplied(t, "put, and gone", sample(), sample(), put(a), drop(1))
	isApplied(t, "gone, and put", sample(), with(func(g *api.Graph) { g.Nodes[2] = api.Node{ID: 3, Labels: []string{"A"}} }), drop(3), put(api.Node{ID: 3, Labels: []string{"A"}}))
	isApplied(t, "a wrong one goes", sample(), sample(), put(wrong), drop(-3))
	isApplied(t, "a wrong one is put anew", sample(), sample(), put(api.Node{ID: 7, Labels: []string{""}}), put(sample().Nodes[3]))
	isApplied(t, "a relationship ahead of its nodes", sample(), with(func(g *api.Graph) {
		g.Nodes = slices.Insert(g.Nodes, 1, a)
		g.Rels = slices.Insert(g.Rels, 2, api.Rel{ID: 2, From: 1, To: 1, Type: "T"})
	}), putRel(api.Rel{ID: 2, From: 1, To: 1, Type: "T"}), put(a))
	isApplied(t, "a node ahead of its relationships", sample(), with(func(g *api.Graph) {
		g.Nodes, g.Rels = g.Nodes[:3], []api.Rel{g.Rels[0], g.Rels[1], g.Rels[3]}
	}), drop(7), dropRel(6), dropRel(4))
	isApplied(t, "next above, and back", sample(), sample(), next(-1, highest+1), next(9, 7))
	isApplied(t, "next below, and a node goes", sample(), with(func(g *api.Graph) { g.Nodes, g.Rels, g.NextNode, g.NextRel = g.Nodes[:3], g.Rels[:2], 4, 2 }),
		next(4, 2), drop(7), dropRel(4), dropRel(5), dropRel(6))
	isApplied(t, "one too many, and one goes", crowd(api.MaxElements, 0), with(func(g *api.Graph) {
		*g = crowd(api.MaxElements, 0)
		g.Nodes = append(g.Nodes[:3], append(g.Nodes[4:], api.Node{ID: api.MaxElements})...)
		g.NextNode++
	}), put(api.Node{ID: api.MaxElements}), next(api.MaxElements+1, 0), drop(3))
}

func isRefused(t *testing.T, what string, want api.Errno, g api.Graph, l ...api.Change) {
	t.Helper()
	before := graph.Copy(g)
	got, e := graph.Apply(g, l...)
	is(t, what, e, want)
	is(t, what+": what is told", alike(got, api.Graph{}), true)
	is(t, what+": handed in", alike(g, before), true)
}

func TestApplyRefuses(t *testing.T) {
	for what, g := range bad() {
		isRefused(t, what, api.ErrArg, g)
		isRefused(t, what, api.ErrArg, g, drop(0))
		l := []api.Change{next(g.NextNode, g.NextRel)}
		for _, n := range g.Nodes {
			l = append(l, put(n))
		}
		for _, r := range g.Rels {
			l = append(l, putRel(r))
		}
		// What its nodes and relationships are put to: of such as fall or stand twice a graph that may be can come.
		if got, e := graph.Apply(api.Graph{}, l...); e == api.OK && (graph.Check(got) != api.OK || alike(got, g)) {
			t.Error(what)
		}
	}
	for _, k := range []api.ChangeKind{-1, 5, 6, -1 << 63, 1<<63 - 1} {
		isRefused(t, "no kind", api.ErrArg, sample(), api.Change{Kind: k})
		isRefused(t, "no kind, last", api.ErrArg, sample(), drop(3), api.Change{Kind: k})
		isRefused(t, "no kind, first", api.ErrArg, sample(), api.Change{Kind: k}, drop(3))
		isRefused(t, "no kind, and many", api.ErrArg, crowd(api.MaxElements, 0), put(api.Node{ID: api.MaxElements}), next(api.MaxElements+1, 0), api.Change{Kind: k})
	}
	isRefused(t, "a node above next", api.ErrArg, sample(), put(api.Node{ID: 9}))
	isRefused(t, "a node below 0", api.ErrArg, sample(), put(api.Node{ID: -1}))
	isRefused(t, "a relationship above next", api.ErrArg, sample(), putRel(api.Rel{ID: 7, Type: "T"}))
	isRefused(t, "no type", api.ErrArg, sample(), putRel(api.Rel{ID: 6}))
	isRefused(t, "labels that fall", api.ErrArg, sample(), put(api.Node{ID: 0, Labels: []string{"B", "A"}}))
	isRefused(t, "null", api.ErrArg, sample(), put(api.Node{ID: 0, Props: []api.Prop{{Key: "k"}}}))
	isRefused(t, "a node with relationships", api.ErrArg, sample(), drop(7))
	isRefused(t, "to nowhere", api.ErrArg, sample(), putRel(api.Rel{ID: 6, From: 0, To: 1, Type: "T"}))
	isRefused(t, "next below", api.ErrArg, sample(), next(7, 7))
	isRefused(t, "next below", api.ErrArg, sample(), next(9, 6))
	isRefused(t, "next below 0", api.ErrArg, api.Graph{}, next(-1, 0))
	isRefused(t, "next above", api.ErrArg, sample(), next(highest+1, 7))
	isRefused(t, "next above", api.ErrArg, sample(), next(9, highest+1))
}

func TestApplyMany(t *testing.T) {
	full, both := crowd(api.MaxElements, 0), crowd(2, api.MaxElements-2)
	more := put(api.Node{ID: api.MaxElements})
	isRefused(t, "a node more", api.ErrMany, full, more, next(api.MaxElements+1, 0))
	isRefused(t, "a relationship more", api.ErrMany, full, putRel(api.Rel{Type: "T"}), next(api.MaxElements, 1))
	isRefused(t, "a node more", api.ErrMany, both, put(api.Node{ID: 2}), next(3, api.MaxElements))
	isRefused(t, "a node more, above next", api.ErrMany, full, more)
	isRefused(t, "a node more, below 0", api.ErrMany, full, put(api.Node{ID: -1}))
	isRefused(t, "a relationship more, to nowhere", api.ErrMany, full, putRel(api.Rel{From: -1}))
	isRefused(t, "one more, and another put anew", api.ErrMany, full, more, put(api.Node{}), next(api.MaxElements+1, 0))
	isRefused(t, "two more, and one goes", api.ErrMany, full, more, put(api.Node{ID: api.MaxElements + 1}), drop(0), next(api.MaxElements+2, 0))
	got, e := graph.Apply(crowd(api.MaxElements-1, 0), put(api.Node{ID: api.MaxElements - 1}), next(api.MaxElements, 0))
	is(t, "at the bound", e == api.OK && graph.Same(got, full), true)
	got, e = graph.Apply(full, put(api.Node{ID: 5}), next(api.MaxElements, 0))
	is(t, "anew at the bound", e == api.OK && graph.Same(got, full), true)
}
