package graph_test

import (
	"slices"
	"strings"
	"testing"

	"lattice/api"
	"lattice/graph"
	"lattice/value"
)

// P5.4

func TestTheExamples(t *testing.T) {
	m := made(t, api.Graph{})
	a, e := m.AddNode([]string{"B", "A"}, []api.Prop{prop("k", 1)})
	is(t, "the first node", a, 0)
	is(t, "the first node", e, api.OK)
	b, e := m.AddNode(nil, nil)
	is(t, "the second node", b, 1)
	is(t, "the second node", e, api.OK)
	r, e := m.AddRel(0, 1, "T", nil)
	is(t, "the relationship", r, 0)
	is(t, "the relationship", e, api.OK)
	_, e = m.AddRel(0, 2, "T", nil)
	is(t, "to nowhere", e, api.ErrNone)
	is(t, "node 0", m.Drop(false, 0), api.ErrAttached)
	is(t, "relationship 0", m.Drop(true, 0), api.OK)
	is(t, "node 0 again", m.Drop(false, 0), api.OK)
	tells(t, m, api.Graph{Nodes: []api.Node{{ID: 1}}, NextNode: 2, NextRel: 1})
}

func TestAddNode(t *testing.T) {
	for _, x := range []struct {
		labels, want []string
		props, kept  []api.Prop
	}{
		{},
		{[]string{}, nil, []api.Prop{}, nil},
		{[]string{"B", "A", "B", "A", "C", "B"}, []string{"A", "B", "C"}, []api.Prop{prop("b", 1), prop("c", 2), prop("a", 3)}, []api.Prop{prop("a", 3), prop("b", 1), prop("c", 2)}},
		{[]string{"A", "A"}, []string{"A"}, []api.Prop{{Key: "n"}}, nil},
		{[]string{"a", "B", "AA", "A"}, []string{"A", "AA", "B", "a"}, []api.Prop{{Key: "z", Value: list()}, {Key: "n"}, prop("A", 0), {Key: "a"}}, []api.Prop{prop("A", 0), {Key: "z", Value: list()}}},
		{slices.Repeat(names(), 2), names(), nil, nil},
	} {
		m := made(t, sample())
		labels, props := slices.Clone(x.labels), slices.Clone(x.props)
		id, e := m.AddNode(x.labels, x.props)
		is(t, "its number", id, 9)
		is(t, "AddNode", e, api.OK)
		tells(t, m, with(func(g *api.Graph) {
			g.Nodes = append(g.Nodes, api.Node{ID: 9, Labels: x.want, Props: x.kept})
			g.NextNode = 10
		}))
		is(t, "handed in", alike(labels, x.labels) && alike(props, x.props), true)
	}
	m := made(t, api.Graph{NextNode: 5, NextRel: 8})
	for i := range int64(3) {
		id, e := m.AddNode(nil, nil)
		is(t, "one by one", id, 5+i)
		is(t, "one by one", e, api.OK)
	}
	is(t, "the last one goes", m.Drop(false, 7), api.OK)
	id, _ := m.AddNode(nil, nil)
	is(t, "no number comes again", id, 8)
	tells(t, m, api.Graph{Nodes: []api.Node{{ID: 5}, {ID: 6}, {ID: 8}}, NextNode: 9, NextRel: 8})
}

func TestAddRel(t *testing.T) {
	for _, x := range []struct{ from, to int64 }{{0, 2}, {2, 0}, {7, 7}, {3, 3}, {0, 3}} {
		m := made(t, sample())
		props := []api.Prop{prop("b", 1), {Key: "n"}, prop("a", 3)}
		id, e := m.AddRel(x.from, x.to, "T", props)
		is(t, "its number", id, 7)
		is(t, "AddRel", e, api.OK)
		tells(t, m, with(func(g *api.Graph) {
			g.Rels = append(g.Rels, api.Rel{ID: 7, From: x.from, To: x.to, Type: "T", Props: []api.Prop{prop("a", 3), prop("b", 1)}})
			g.NextRel = 8
		}))
		is(t, "handed in", alike(props, []api.Prop{prop("b", 1), {Key: "n"}, prop("a", 3)}), true)
		is(t, "it goes", m.Drop(true, 7), api.OK)
		id, _ = m.AddRel(0, 0, "T", nil)
		is(t, "no number comes again", id, 8)
	}
	for _, s := range names() {
		m := made(t, crowd(1, 0))
		_, e := m.AddRel(0, 0, s, nil)
		r, _ := m.Rel(0)
		is(t, "AddRel", e, api.OK)
		is(t, "its type", r.Type, s)
	}
}

// What is handed in is not kept, spare room is left alone.
func TestWhatIsHandedInIsNotKept(t *testing.T) {
	m := made(t, crowd(1, 0))
	labels := append(make([]string, 0, 9), "B", "A")
	props := append(make([]api.Prop, 0, 9), api.Prop{Key: "l", Value: list(value.Int(1), value.Int(2))}, api.Prop{Key: "n"}, prop("k", 1))
	v := list(value.String("x"))
	m.AddNode(labels, props)
	m.AddRel(0, 1, "T", props)
	m.SetProp(false, 1, "v", v)
	m.SetProp(true, 0, "v", v)
	is(t, "labels", alike(labels[:9], append([]string{"B", "A"}, make([]string, 7)...)), true)
	is(t, "props", alike(props[3:9], make([]api.Prop, 6)), true)
	before := m.Tell()
	spoil(labels)
	spoil(props)
	spoil(v)
	tells(t, m, before)
	is(t, "what was set", alike(before.Nodes[1].Props[2].Value, list(value.String("x"))), true)
}

// wrongProps are properties that may not be set.
func wrongProps() map[string][]api.Prop {
	out := map[string][]api.Prop{
		"a key twice":                 {prop("k", 1), prop("k", 1)},
		"a key twice, not side by":    {prop("k", 1), prop("a", 1), prop("k", 2)},
		"a key twice, once null":      {prop("k", 1), {Key: "k"}},
		"a key twice, null ahead":     {{Key: "k"}, prop("k", 1)},
		"a key twice, both null":      {{Key: "k"}, {Key: "a"}, {Key: "k"}},
		"a null whose key is no name": {{}},
	}
	for _, s := range notNames() {
		out["key "+s] = []api.Prop{prop("k", 1), prop(s, 1)}
		out["key of null "+s] = []api.Prop{prop("k", 1), {Key: s}}
	}
	for what, v := range notStored() {
		out[what] = []api.Prop{prop("a", 1), {Key: "k", Value: v}, prop("z", 1)}
	}
	return out
}

func TestAddRefuses(t *testing.T) {
	m := made(t, sample())
	refused := func(what string, want, e api.Errno, id int64) {
		t.Helper()
		is(t, what, e, want)
		is(t, what, id, 0)
	}
	for _, s := range notNames() {
		for _, labels := range [][]string{{s}, {"A", s}, {s, "A"}, {s, s}} {
			id, e := m.AddNode(labels, nil)
			refused("label "+s, api.ErrArg, e, id)
		}
		id, e := m.AddRel(0, 0, s, nil)
		refused("type "+s, api.ErrArg, e, id)
		id, e = m.AddRel(-1, 99, s, nil)
		refused("type "+s+" of nowhere", api.ErrArg, e, id)
	}
	for what, l := range wrongProps() {
		id, e := m.AddNode([]string{"A"}, l)
		refused(what, api.ErrArg, e, id)
		id, e = m.AddRel(0, 7, "T", l)
		refused(what, api.ErrArg, e, id)
		id, e = m.AddRel(1, 7, "T", l)
		refused(what+" from nowhere", api.ErrArg, e, id)
	}
	for _, n := range []int64{-1, 1, 4, 8, 9, highest, -1 << 63, 1<<63 - 1} {
		id, e := m.AddRel(n, 0, "T", nil)
		refused("from nowhere", api.ErrNone, e, id)
		id, e = m.AddRel(0, n, "T", nil)
		refused("to nowhere", api.ErrNone, e, id)
		id, e = m.AddRel(n, n, "T", nil)
		refused("nowhere", api.ErrNone, e, id)
	}
	tells(t, m, sample())
	isList(t, "Rels", m.Rels(0, 0), 0, 1, 5, 6)
}

func TestAddMany(t *testing.T) {
	for _, g := range []api.Graph{crowd(api.MaxElements-1, 0), crowd(1, api.MaxElements-2)} {
		for _, rel := range []bool{false, true} {
			m := made(t, g)
			add := func(rel bool, kind string, to int64) api.Errno {
				var id int64
				var e api.Errno
				if rel {
					id, e = m.AddRel(0, to, kind, nil)
				} else {
					id, e = m.AddNode([]string{kind}, nil)
				}
				is(t, "its number", id == 0, e != api.OK || g.NextRel == 0 && rel)
				return e
			}
			is(t, "at the bound", add(rel, "T", 0), api.OK)
			full := m.Tell()
			is(t, "a node more", add(false, "T", 0), api.ErrMany)
			is(t, "a relationship more", add(true, "T", 0), api.ErrMany)
			is(t, "ErrArg ahead", add(false, "", 0), api.ErrArg)
			is(t, "ErrArg ahead", add(true, "", -1), api.ErrArg)
			is(t, "ErrNone ahead", add(true, "T", -1), api.ErrNone)
			tells(t, m, full)
			is(t, "Make of it", graph.Check(full), api.OK)
			if g.NextRel == 0 {
				is(t, "one goes", m.Drop(false, 9), api.OK)
			} else {
				is(t, "one goes", m.Drop(true, 9), api.OK)
			}
			is(t, "there is room", add(!rel, "T", 0), api.OK)
			is(t, "there was", add(!rel, "T", 0), api.ErrMany)
		}
	}
}

func TestAddTheHighestNumbers(t *testing.T) {
	m := made(t, api.Graph{NextNode: highest - 1, NextRel: highest - 1})
	id, e := m.AddNode(nil, nil)
	is(t, "the highest node", id, highest-1)
	is(t, "the highest node", e, api.OK)
	id, e = m.AddRel(highest-1, highest-1, "T", nil)
	is(t, "the highest relationship", id, highest-1)
	is(t, "the highest relationship", e, api.OK)
	want := api.Graph{Nodes: []api.Node{{ID: highest - 1}}, Rels: []api.Rel{{ID: highest - 1, From: highest - 1, To: highest - 1, Type: "T"}}, NextNode: highest, NextRel: highest}
	tells(t, m, want)
	id, e = m.AddNode(nil, nil)
	is(t, "a node above", id, 0)
	is(t, "a node above", e, api.ErrMany)
	id, e = m.AddRel(highest-1, highest-1, "T", nil)
	is(t, "a relationship above", id, 0)
	is(t, "a relationship above", e, api.ErrMany)
	_, e = m.AddRel(highest, highest-1, "T", nil)
	is(t, "ErrNone ahead", e, api.ErrNone)
	_, e = m.AddNode([]string{""}, nil)
	is(t, "ErrArg ahead", e, api.ErrArg)
	tells(t, m, want)
	is(t, "Drop", m.Drop(true, highest-1), api.OK)
	_, e = m.AddRel(highest-1, highest-1, "T", nil)
	is(t, "no number comes again", e, api.ErrMany)
	// Each has a number of its own: nodes go while relationships can't.
	m = made(t, api.Graph{Nodes: []api.Node{{}}, NextNode: 1, NextRel: highest})
	_, e = m.AddRel(0, 0, "T", nil)
	is(t, "no relationship", e, api.ErrMany)
	_, e = m.AddNode(nil, nil)
	is(t, "but a node", e, api.OK)
}

func TestSetProp(t *testing.T) {
	one := value.Int(1)
	for _, x := range []struct {
		key  string
		v    api.Value
		want []api.Prop
	}{
		{"d", one, []api.Prop{prop("b", 2), prop("d", 1), prop("f", 2)}},
		{"a", one, []api.Prop{prop("a", 1), prop("b", 2), prop("d", 2), prop("f", 2)}},
		{"c", one, []api.Prop{prop("b", 2), prop("c", 1), prop("d", 2), prop("f", 2)}},
		{"g", one, []api.Prop{prop("b", 2), prop("d", 2), prop("f", 2), prop("g", 1)}},
		{"b", one, []api.Prop{prop("b", 1), prop("d", 2), prop("f", 2)}},
		{"f", one, []api.Prop{prop("b", 2), prop("d", 2), prop("f", 1)}},
		{"b", value.Null(), []api.Prop{prop("d", 2), prop("f", 2)}},
		{"d", value.Null(), []api.Prop{prop("b", 2), prop("f", 2)}},
		{"f", value.Null(), []api.Prop{prop("b", 2), prop("d", 2)}},
		{"a", value.Null(), []api.Prop{prop("b", 2), prop("d", 2), prop("f", 2)}},
		{"e", api.Value{List: []api.Value{}}, []api.Prop{prop("b", 2), prop("d", 2), prop("f", 2)}},
		{"z", value.Null(), []api.Prop{prop("b", 2), prop("d", 2), prop("f", 2)}},
	} {
		g := crowd(3, 3)
		props := []api.Prop{prop("b", 2), prop("d", 2), prop("f", 2)}
		g.Nodes[1].Props, g.Rels[1].Props = props, props
		m := made(t, g)
		is(t, "of a node", m.SetProp(false, 1, x.key, x.v), api.OK)
		g.Nodes[1].Props = x.want
		tells(t, m, g)
		is(t, "of a relationship", m.SetProp(true, 1, x.key, x.v), api.OK)
		g.Rels[1].Props = x.want
		tells(t, m, g)
	}
	for _, v := range stored() {
		m := made(t, crowd(1, 1))
		for _, rel := range []bool{false, true} {
			is(t, "first", m.SetProp(rel, 0, "k", v), api.OK)
			is(t, "again", m.SetProp(rel, 0, "k", v), api.OK)
		}
		g := m.Tell()
		is(t, "is that", alike(g.Nodes[0].Props, []api.Prop{{Key: "k", Value: v}}) && alike(g.Rels[0].Props, g.Nodes[0].Props), true)
		is(t, "goes", m.SetProp(false, 0, "k", value.Null()), api.OK)
		is(t, "goes", m.SetProp(true, 0, "k", value.Null()), api.OK)
		tells(t, m, crowd(1, 1))
	}
}

func TestSetPropRefuses(t *testing.T) {
	m := made(t, sample())
	for _, rel := range []bool{false, true} {
		for _, id := range []int64{0, 99} {
			for _, s := range notNames() {
				is(t, s, m.SetProp(rel, id, s, value.Int(1)), api.ErrArg)
				is(t, s+" null", m.SetProp(rel, id, s, value.Null()), api.ErrArg)
			}
			for what, v := range notStored() {
				is(t, what, m.SetProp(rel, id, "k", v), api.ErrArg)
			}
		}
	}
	for _, v := range []api.Value{value.Null(), value.Int(1)} {
		for _, id := range []int64{-1, 1, 4, 9, highest, -1 << 63} {
			is(t, "no such node", m.SetProp(false, id, "k", v), api.ErrNone)
		}
		for _, id := range []int64{-1, 2, 3, 7, highest, 1<<63 - 1} {
			is(t, "no such relationship", m.SetProp(true, id, "k", v), api.ErrNone)
		}
	}
	tells(t, m, sample())
}

func TestSetLabel(t *testing.T) {
	for _, x := range []struct {
		label string
		on    bool
		want  []string
	}{
		{"D", true, []string{"B", "D", "F"}},
		{"A", true, []string{"A", "B", "D", "F"}},
		{"C", true, []string{"B", "C", "D", "F"}},
		{"a", true, []string{"B", "D", "F", "a"}},
		{"B", false, []string{"D", "F"}},
		{"D", false, []string{"B", "F"}},
		{"F", false, []string{"B", "D"}},
		{"A", false, []string{"B", "D", "F"}},
		{"b", false, []string{"B", "D", "F"}},
	} {
		g := crowd(3, 0)
		g.Nodes[0].Labels, g.Nodes[1].Labels = []string{"B", "D", "F"}, []string{"B", "D", "F"}
		m := made(t, g)
		is(t, x.label, m.SetLabel(1, x.label, x.on), api.OK)
		g.Nodes[1].Labels = x.want
		tells(t, m, g)
		is(t, x.label+" again", m.SetLabel(1, x.label, x.on), api.OK)
		tells(t, m, g)
	}
	m := made(t, crowd(1, 0))
	for i, s := range slices.Backward(names()) {
		is(t, s, m.SetLabel(0, s, true), api.OK)
		n, _ := m.Node(0)
		is(t, s, slices.Equal(n.Labels, names()[i:]), true)
	}
	for _, s := range names() {
		is(t, s, m.SetLabel(0, s, false), api.OK)
	}
	tells(t, m, crowd(1, 0))
}

func TestSetLabelRefuses(t *testing.T) {
	m := made(t, sample())
	for _, on := range []bool{true, false} {
		for _, s := range notNames() {
			is(t, s, m.SetLabel(0, s, on), api.ErrArg)
			is(t, s, m.SetLabel(99, s, on), api.ErrArg)
		}
		for _, id := range []int64{-1, 1, 4, 9, highest, -1 << 63, 1<<63 - 1} {
			is(t, "no such node", m.SetLabel(id, "A", on), api.ErrNone)
		}
	}
	tells(t, m, sample())
}

func TestDrop(t *testing.T) {
	m := made(t, sample())
	for _, id := range []int64{-1, 1, 4, 9, highest, -1 << 63, 1<<63 - 1} {
		is(t, "no such node", m.Drop(false, id), api.ErrNone)
	}
	for _, id := range []int64{-1, 2, 3, 7, highest, -1 << 63, 1<<63 - 1} {
		is(t, "no such relationship", m.Drop(true, id), api.ErrNone)
	}
	for _, id := range []int64{0, 2, 7} {
		is(t, "a node that has relationships", m.Drop(false, id), api.ErrAttached)
	}
	tells(t, m, sample())
	is(t, "a node without", m.Drop(false, 3), api.OK)
	is(t, "which is gone", m.Drop(false, 3), api.ErrNone)
	tells(t, m, with(func(g *api.Graph) { g.Nodes = slices.Delete(g.Nodes, 2, 3) }))
	is(t, "to another one", m.Drop(true, 6), api.OK)
	is(t, "which is gone", m.Drop(true, 6), api.ErrNone)
	is(t, "from it to itself is left", m.Drop(false, 7), api.ErrAttached)
	is(t, "from it to itself", m.Drop(true, 4), api.OK)
	is(t, "none is left", m.Drop(false, 7), api.OK)
	is(t, "to 2", m.Drop(true, 0), api.OK)
	is(t, "to 2", m.Drop(true, 5), api.OK)
	is(t, "from 2 is left", m.Drop(false, 2), api.ErrAttached)
	is(t, "to 0 is left", m.Drop(false, 0), api.ErrAttached)
	is(t, "from 2", m.Drop(true, 1), api.OK)
	is(t, "0", m.Drop(false, 0), api.OK)
	is(t, "2", m.Drop(false, 2), api.OK)
	tells(t, m, api.Graph{NextNode: 9, NextRel: 7})
}

// As many as may be go one by one, too, whichever way round.
func TestDropMany(t *testing.T) {
	m := made(t, crowd(1, api.MaxElements-1))
	for i := range int64(api.MaxElements - 1) {
		if m.Drop(true, i) != api.OK {
			t.Fatal(i)
		}
	}
	is(t, "the node", m.Drop(false, 0), api.OK)
	tells(t, m, api.Graph{NextNode: 1, NextRel: api.MaxElements - 1})
	m = made(t, crowd(api.MaxElements, 0))
	for i := range int64(api.MaxElements) {
		if m.Drop(false, api.MaxElements-1-i) != api.OK {
			t.Fatal(i)
		}
	}
	tells(t, m, api.Graph{NextNode: api.MaxElements})
}

func TestManyLabelsAndProps(t *testing.T) {
	var labels []string
	var props []api.Prop
	for i := range 1 << 16 {
		s := strings.Repeat("x", i%60) + string(rune('A'+i%50))
		labels = append(labels, s)
	}
	want := slices.Compact(slices.Sorted(slices.Values(labels)))
	for i, s := range slices.Backward(want) {
		props = append(props, prop(s, int64(i)))
	}
	m := made(t, api.Graph{})
	_, e := m.AddNode(labels, props)
	is(t, "AddNode", e, api.OK)
	n, _ := m.Node(0)
	is(t, "labels", slices.Equal(n.Labels, want), true)
	slices.Reverse(props)
	is(t, "props", alike(n.Props, props), true)
}
