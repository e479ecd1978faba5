package graph_test

import (
	"slices"
	"testing"

	"lattice/api"
	"lattice/graph"
)

// P5.3

func TestMake(t *testing.T) {
	for what, g := range good() {
		m, e := graph.Make(g)
		if e != api.OK || !m.There() || !alike(m.Tell(), g) {
			t.Error(what, e)
		}
	}
	for what, g := range bad() {
		m, e := graph.Make(g)
		if e != api.ErrArg || m != nil || m.There() {
			t.Error(what, e)
		}
	}
}

// Neither what is handed in nor what is told is the graph's own memory.
func TestMemoryIsNotShared(t *testing.T) {
	g := sample()
	m := made(t, g)
	spoil(g)
	tells(t, m, sample())
	told, again := m.Tell(), m.Tell()
	apart(t, told, again)
	apart(t, g, again)
	n, _ := m.Node(0)
	r, _ := m.Rel(0)
	apart(t, again, n)
	apart(t, again, r)
	other, _ := m.Node(0)
	apart(t, n, other)
	spoil(told)
	spoil(n)
	spoil(r)
	spoil(m.Labelled("A"))
	for dir := -1; dir < 2; dir++ {
		spoil(m.Rels(0, dir))
	}
	isList(t, "Rels", m.Rels(0, 0), 0, 1, 5, 6)
	isList(t, "Rels", m.Rels(0, 1), 0, 5, 6)
	isList(t, "Rels", m.Rels(0, -1), 1)
	isList(t, "Labelled", m.Labelled("A"), 0, 2)
	tells(t, m, sample())
}

func TestNodeAndRel(t *testing.T) {
	g := sample()
	m := made(t, g)
	for id := int64(-2); id < 12; id++ {
		var n api.Node
		var r api.Rel
		at := slices.IndexFunc(g.Nodes, func(n api.Node) bool { return n.ID == id })
		if at >= 0 {
			n = g.Nodes[at]
		}
		gotNode, ok := m.Node(id)
		is(t, "Node", ok, at >= 0)
		is(t, "Node", alike(gotNode, n), true)
		at = slices.IndexFunc(g.Rels, func(r api.Rel) bool { return r.ID == id })
		if at >= 0 {
			r = g.Rels[at]
		}
		gotRel, ok := m.Rel(id)
		is(t, "Rel", ok, at >= 0)
		is(t, "Rel", alike(gotRel, r), true)
	}
	for _, id := range []int64{-1 << 63, 1<<63 - 1, highest} {
		_, node := m.Node(id)
		_, rel := m.Rel(id)
		is(t, "far off", node || rel, false)
	}
}

func TestNodes(t *testing.T) {
	m := made(t, sample())
	walk := m.Nodes()
	for range 3 {
		isList(t, "Nodes", slices.Collect(walk), 0, 2, 3, 7)
	}
	var some []int64
	for id := range walk {
		some = append(some, id)
		if id == 2 {
			break
		}
	}
	isList(t, "left early", some, 0, 2)
	for range walk {
		break
	}
	isList(t, "gone through again", slices.Collect(walk), 0, 2, 3, 7)
	isList(t, "of none", slices.Collect(made(t, api.Graph{NextNode: 5}).Nodes()))
}

// The nodes are those that are there when Nodes is called, not when they are gone over.
func TestNodesWhileTheGraphChanges(t *testing.T) {
	m := made(t, sample())
	walk := m.Nodes()
	var seen []int64
	for id := range walk {
		seen = append(seen, id)
		m.AddNode(nil, nil)
		m.Drop(false, 3)
		m.SetLabel(id, "L", true)
		for inner := range m.Nodes() {
			m.SetLabel(inner, "M", true)
			break
		}
	}
	isList(t, "while it changes", seen, 0, 2, 3, 7)
	isList(t, "again", slices.Collect(walk), 0, 2, 3, 7)
	isList(t, "those of now", slices.Collect(m.Nodes()), 0, 2, 7, 9, 10, 11, 12)
	one, two := m.Nodes(), m.Nodes()
	for a := range one {
		isList(t, "in one another", slices.Collect(two), 0, 2, 7, 9, 10, 11, 12)
		is(t, "begins", a, 0)
		break
	}
}

func TestLabelled(t *testing.T) {
	m := made(t, sample())
	isList(t, "A", m.Labelled("A"), 0, 2)
	isList(t, "B", m.Labelled("B"), 0)
	isList(t, "a b", m.Labelled("a b"), 7)
	isList(t, "match", m.Labelled("match"), 7)
	for _, s := range append(notNames(), "a", "C", "AB", "MATCH") {
		isList(t, s, m.Labelled(s))
	}
	m.SetLabel(3, "A", true)
	isList(t, "one more", m.Labelled("A"), 0, 2, 3)
	m.SetLabel(0, "A", false)
	isList(t, "one less", m.Labelled("A"), 2, 3)
	m.AddNode([]string{"Z", "A"}, nil)
	isList(t, "a new one", m.Labelled("A"), 2, 3, 9)
	m.Drop(false, 3)
	isList(t, "one gone", m.Labelled("A"), 2, 9)
}

func TestRels(t *testing.T) {
	m := made(t, sample())
	for _, x := range []struct {
		node           int64
		from, to, both []int64
	}{
		{0, []int64{0, 5, 6}, []int64{1}, []int64{0, 1, 5, 6}},
		{2, []int64{1}, []int64{0, 5}, []int64{0, 1, 5}},
		{3, nil, nil, nil},
		{7, []int64{4}, []int64{4, 6}, []int64{4, 6}},
		{1, nil, nil, nil},
		{-1, nil, nil, nil},
		{9, nil, nil, nil},
		{1<<63 - 1, nil, nil, nil},
	} {
		isList(t, "from it", m.Rels(x.node, 1), x.from...)
		isList(t, "to it", m.Rels(x.node, -1), x.to...)
		isList(t, "both", m.Rels(x.node, 0), x.both...)
		for _, dir := range []int{2, -2, 3, 1 << 62, -1 << 63, 1<<63 - 1} {
			isList(t, "another dir", m.Rels(x.node, dir))
		}
	}
}

func TestRelsAsTheyChange(t *testing.T) {
	m := made(t, sample())
	m.AddRel(3, 0, "T", nil)
	m.AddRel(3, 3, "T", nil)
	m.AddRel(0, 3, "T", nil)
	isList(t, "from 3", m.Rels(3, 1), 7, 8)
	isList(t, "to 3", m.Rels(3, -1), 8, 9)
	isList(t, "both of 3", m.Rels(3, 0), 7, 8, 9)
	isList(t, "to 0", m.Rels(0, -1), 1, 7)
	m.Drop(true, 5)
	m.Drop(true, 8)
	isList(t, "both of 3", m.Rels(3, 0), 7, 9)
	isList(t, "from 0", m.Rels(0, 1), 0, 6, 9)
	isList(t, "to 2", m.Rels(2, -1), 0)
	m.SetProp(true, 0, "k", api.Value{})
	isList(t, "to 2", m.Rels(2, -1), 0)
	for _, id := range []int64{7, 9} {
		m.Drop(true, id)
	}
	isList(t, "none of 3", m.Rels(3, 0))
	is(t, "3 goes", m.Drop(false, 3), api.OK)
	isList(t, "of 3, which is gone", m.Rels(3, 0))
}

func TestCopyGoesOnApart(t *testing.T) {
	change := func(m *graph.Graph) {
		m.SetProp(false, 0, "k", list())
		m.SetProp(false, 0, "a", list())
		m.SetProp(false, 7, "`", api.Value{})
		m.SetProp(true, 0, "l", api.Value{})
		m.SetProp(true, 6, "z", list())
		m.SetLabel(0, "A", false)
		m.SetLabel(0, "0", true)
		m.SetLabel(2, "C", true)
		m.SetLabel(3, "C", true)
		m.AddNode([]string{"N"}, nil)
		m.AddRel(0, 2, "N", nil)
		m.AddRel(2, 0, "N", nil)
		m.Drop(true, 0)
		m.Drop(true, 4)
		m.Drop(true, 6)
		m.Drop(false, 7)
	}
	a := made(t, sample())
	b := a.Copy()
	c := b.Copy()
	change(b)
	tells(t, a, sample())
	tells(t, c, sample())
	isList(t, "of the first one", a.Rels(0, 1), 0, 5, 6)
	isList(t, "of the last one", c.Rels(0, 0), 0, 1, 5, 6)
	is(t, "changed", alike(b.Tell(), sample()), false)
	isList(t, "of the changed one", b.Rels(0, 0), 1, 5, 7, 8)
	after := b.Tell()
	change(a)
	tells(t, a, after)
	tells(t, b, after)
	tells(t, c, sample())
	change(c)
	tells(t, c, after)
	apart(t, a.Tell(), b.Tell())
}

// Copies that grow behind one another share no spare room.
func TestCopiesGrowApart(t *testing.T) {
	a := made(t, crowd(1, 0))
	for range 5 {
		a.AddRel(0, 0, "T", nil)
	}
	b := a.Copy()
	a.Drop(true, 2)
	a.AddRel(0, 0, "A", nil)
	b.AddRel(0, 0, "B", nil)
	b.Drop(true, 0)
	b.AddRel(0, 0, "B", nil)
	a.AddRel(0, 0, "A", nil)
	for dir := -1; dir < 2; dir++ {
		isList(t, "the first one", a.Rels(0, dir), 0, 1, 3, 4, 5, 6)
		isList(t, "the second one", b.Rels(0, dir), 1, 2, 3, 4, 5, 6)
	}
	r, _ := a.Rel(5)
	is(t, "its type", r.Type, "A")
	r, _ = b.Rel(5)
	is(t, "its type", r.Type, "B")
}

// A graph that is not there answers ErrNil, and zeros; whatever else is wrong.
func TestNoGraph(t *testing.T) {
	refused, _ := graph.Make(api.Graph{NextNode: -1})
	for _, m := range []*graph.Graph{nil, {}, new(graph.Graph), refused} {
		is(t, "There", m.There(), false)
		is(t, "Tell", alike(m.Tell(), api.Graph{}), true)
		is(t, "Copy", m.Copy(), nil)
		n, node := m.Node(0)
		r, rel := m.Rel(0)
		is(t, "Node", node || !alike(n, api.Node{}), false)
		is(t, "Rel", rel || !alike(r, api.Rel{}), false)
		for range m.Nodes() {
			t.Error("Nodes")
		}
		isList(t, "Labelled", m.Labelled("A"))
		isList(t, "Rels", m.Rels(0, 0))
		for _, labels := range [][]string{nil, {""}} {
			id, e := m.AddNode(labels, nil)
			is(t, "AddNode", id, 0)
			is(t, "AddNode", e, api.ErrNil)
		}
		for _, kind := range []string{"T", ""} {
			id, e := m.AddRel(0, 0, kind, nil)
			is(t, "AddRel", id, 0)
			is(t, "AddRel", e, api.ErrNil)
			is(t, "SetProp", m.SetProp(true, 0, kind, api.Value{}), api.ErrNil)
			is(t, "SetLabel", m.SetLabel(0, kind, true), api.ErrNil)
		}
		is(t, "Drop", m.Drop(true, 0), api.ErrNil)
		is(t, "Drop", m.Drop(false, 0), api.ErrNil)
		is(t, "There", m.There(), false)
	}
}
