package graph_test

import (
	"math/rand/v2"
	"reflect"
	"slices"
	"testing"

	"lattice/api"
	"lattice/graph"
	"lattice/value"
)

// P5.5: laws, held against many graphs that come of chance, and against another way of doing what the methods do.

// another does on lists, by going through all of them, what a graph's methods do.
type another struct{ api.Graph }

func (a *another) node(id int64) int {
	return slices.IndexFunc(a.Nodes, func(n api.Node) bool { return n.ID == id })
}

func (a *another) rel(id int64) int {
	return slices.IndexFunc(a.Rels, func(r api.Rel) bool { return r.ID == id })
}

func (a *another) rels(node int64, dir int) (out []int64) {
	for _, r := range a.Rels {
		if dir == 1 && r.From == node || dir == -1 && r.To == node || dir == 0 && (r.From == node || r.To == node) {
			out = append(out, r.ID)
		}
	}
	return out
}

func (a *another) labelled(label string) (out []int64) {
	for _, n := range a.Nodes {
		if slices.Contains(n.Labels, label) {
			out = append(out, n.ID)
		}
	}
	return out
}

func (a *another) nodes() (out []int64) {
	for _, n := range a.Nodes {
		out = append(out, n.ID)
	}
	return out
}

// set puts properties in one by one, so that the last one counts.
func set(props []api.Prop, key string, v api.Value) []api.Prop {
	var out []api.Prop
	for _, p := range props {
		if p.Key != key {
			out = append(out, p)
		}
	}
	if v.Kind != api.ValueNull {
		out = append(out, api.Prop{Key: key, Value: v})
	}
	slices.SortFunc(out, func(x, y api.Prop) int { return value.Compare(value.String(x.Key), value.String(y.Key)) })
	return out
}

func wrongProp(p api.Prop) bool {
	return p.Key == "" || p.Value.Kind != api.ValueNull && !value.Storable(p.Value)
}

func wrong(props []api.Prop) bool {
	for i, p := range props {
		if wrongProp(p) || slices.ContainsFunc(props[:i], func(q api.Prop) bool { return q.Key == p.Key }) {
			return true
		}
	}
	return false
}

func setAll(props []api.Prop) (out []api.Prop) {
	for _, p := range props {
		out = set(out, p.Key, p.Value)
	}
	return out
}

func (a *another) addNode(labels []string, props []api.Prop) (int64, api.Errno) {
	if slices.Contains(labels, "") || wrong(props) {
		return 0, api.ErrArg
	}
	if a.NextNode == highest {
		return 0, api.ErrMany
	}
	n := api.Node{ID: a.NextNode, Props: setAll(props)}
	for _, l := range labels {
		n.Labels = label(n.Labels, l, true)
	}
	a.Nodes = append(slices.Clone(a.Nodes), n)
	a.NextNode++
	return n.ID, api.OK
}

func (a *another) addRel(from, to int64, kind string, props []api.Prop) (int64, api.Errno) {
	if kind == "" || wrong(props) {
		return 0, api.ErrArg
	}
	if a.node(from) < 0 || a.node(to) < 0 {
		return 0, api.ErrNone
	}
	if a.NextRel == highest {
		return 0, api.ErrMany
	}
	a.Rels = append(slices.Clone(a.Rels), api.Rel{ID: a.NextRel, From: from, To: to, Type: kind, Props: setAll(props)})
	a.NextRel++
	return a.NextRel - 1, api.OK
}

func (a *another) setProp(rel bool, id int64, key string, v api.Value) api.Errno {
	if wrongProp(api.Prop{Key: key, Value: v}) {
		return api.ErrArg
	}
	at := a.node(id)
	if rel {
		at = a.rel(id)
	}
	if at < 0 {
		return api.ErrNone
	}
	a.Graph = graph.Copy(a.Graph)
	if rel {
		a.Rels[at].Props = set(a.Rels[at].Props, key, v)
	} else {
		a.Nodes[at].Props = set(a.Nodes[at].Props, key, v)
	}
	return api.OK
}

func label(labels []string, l string, on bool) (out []string) {
	for _, x := range labels {
		if x != l {
			out = append(out, x)
		}
	}
	if on {
		out = append(out, l)
	}
	slices.Sort(out)
	return out
}

func (a *another) setLabel(id int64, l string, on bool) api.Errno {
	if l == "" {
		return api.ErrArg
	}
	at := a.node(id)
	if at < 0 {
		return api.ErrNone
	}
	a.Graph = graph.Copy(a.Graph)
	a.Nodes[at].Labels = label(a.Nodes[at].Labels, l, on)
	return api.OK
}

func (a *another) drop(rel bool, id int64) api.Errno {
	if rel {
		if a.rel(id) < 0 {
			return api.ErrNone
		}
		a.Rels = slices.Delete(slices.Clone(a.Rels), a.rel(id), a.rel(id)+1)
		return api.OK
	}
	if a.node(id) < 0 {
		return api.ErrNone
	}
	if len(a.rels(id, 0)) > 0 {
		return api.ErrAttached
	}
	a.Nodes = slices.Delete(slices.Clone(a.Nodes), a.node(id), a.node(id)+1)
	return api.OK
}

// chance makes what is handed in.
type chance struct{ *rand.Rand }

func (c chance) number() int64 { return c.Int64N(9) - 1 }

func (c chance) name() string { return []string{"A", "B", "C", "AB", "a b", ""}[c.IntN(23)%6] }

func (c chance) value() api.Value {
	l := []api.Value{value.Null(), value.Bool(true), value.Int(1), value.Int(2), value.String("x"), list(), list(value.Int(1)), list(value.String("a"), value.String("b")), list(value.Null()), {Kind: api.ValueNode}}
	return l[c.IntN(len(l)*3)%(len(l)-c.IntN(3))]
}

func (c chance) names() (out []string) {
	for range c.IntN(5) {
		out = append(out, c.name())
	}
	return out
}

func (c chance) props() (out []api.Prop) {
	for range c.IntN(4) {
		out = append(out, api.Prop{Key: c.name(), Value: c.value()})
	}
	return out
}

// step does one and the same to a graph and to another one, and tells what both answered.
func (c chance) step(g *graph.Graph, a *another) (id, wantID int64, e, want api.Errno) {
	rel, n := c.IntN(2) == 0, c.number()
	switch c.IntN(7) {
	case 0:
		labels, props := c.names(), c.props()
		id, e = g.AddNode(labels, props)
		wantID, want = a.addNode(labels, props)
	case 1, 2:
		to, kind, props := c.number(), c.name(), c.props()
		id, e = g.AddRel(n, to, kind, props)
		wantID, want = a.addRel(n, to, kind, props)
	case 3, 4:
		key, v := c.name(), c.value()
		e = g.SetProp(rel, n, key, v)
		want = a.setProp(rel, n, key, v)
	case 5:
		l, on := c.name(), c.IntN(2) == 0
		e = g.SetLabel(n, l, on)
		want = a.setLabel(n, l, on)
	case 6:
		e = g.Drop(rel, n)
		want = a.drop(rel, n)
	}
	return id, wantID, e, want
}

// held holds a graph against another one by all that it tells.
func held(t *testing.T, g *graph.Graph, a *another) {
	t.Helper()
	told := g.Tell()
	if !alike(told, a.Graph) || graph.Check(told) != api.OK {
		t.Fatalf("%v\n%v", told, a.Graph)
	}
	isList(t, "Nodes", slices.Collect(g.Nodes()), a.nodes()...)
	for _, l := range []string{"A", "B", "C", "AB", "a b", ""} {
		isList(t, "Labelled", g.Labelled(l), a.labelled(l)...)
	}
	for id := int64(-1); id < 9; id++ {
		for dir := -2; dir <= 2; dir++ {
			isList(t, "Rels", g.Rels(id, dir), a.rels(id, dir)...)
		}
		n, node := g.Node(id)
		r, rel := g.Rel(id)
		is(t, "Node", node, a.node(id) >= 0)
		is(t, "Node", !node || alike(n, a.Nodes[max(0, a.node(id))]), true)
		is(t, "Rel", rel, a.rel(id) >= 0)
		is(t, "Rel", !rel || alike(r, a.Rels[max(0, a.rel(id))]), true)
	}
}

func TestMethodsAgainstAnotherWay(t *testing.T) {
	c := chance{rand.New(rand.NewPCG(5, 3))}
	answers := map[api.Errno]int{}
	for range 300 {
		start := api.Graph{}
		if c.IntN(4) == 0 {
			start = sample()
		} else if c.IntN(8) == 0 {
			start.NextNode, start.NextRel = highest-c.Int64N(3), highest-c.Int64N(3)
		}
		g, a := made(t, start), &another{start}
		for range 40 {
			left, was := g.Copy(), *a
			id, wantID, e, want := c.step(g, a)
			if id != wantID || e != want {
				t.Fatal(id, wantID, e, want)
			}
			answers[e]++
			held(t, g, a)
			tells(t, left, was.Graph)
			if c.IntN(5) == 0 { // the copy goes on, the first one is left
				*a, g = was, left
			}
		}
	}
	for _, e := range []api.Errno{api.OK, api.ErrArg, api.ErrNone, api.ErrAttached, api.ErrMany} {
		if answers[e] < 20 {
			t.Error(e, answers[e])
		}
	}
}

// A refusal changes nothing, and leaves the graph as good as it was.
func TestRefusalsChangeNothing(t *testing.T) {
	c := chance{rand.New(rand.NewPCG(5, 4))}
	g, a := made(t, sample()), &another{sample()}
	for range 3000 {
		before := g.Tell()
		_, _, e, _ := c.step(g, a)
		if e != api.OK {
			tells(t, g, before)
		}
	}
}

// many are graphs that come of chance, some of them akin.
func (c chance) many(t *testing.T, n int) (out []api.Graph) {
	for range n {
		g, a := made(t, api.Graph{}), &another{}
		if len(out) > 0 && c.IntN(3) > 0 {
			g = made(t, out[c.IntN(len(out))])
			a.Graph = g.Tell()
		}
		for range c.IntN(30) {
			c.step(g, a)
		}
		out = append(out, g.Tell())
	}
	return append(out, api.Graph{}, sample(), api.Graph{NextNode: highest, NextRel: highest})
}

// rank tells where changes of a kind stand among the others.
func rank(k api.ChangeKind) int {
	return slices.Index([]api.ChangeKind{api.ChangeDropRel, api.ChangeDropNode, api.ChangeNode, api.ChangeRel, api.ChangeNext}, k)
}

func number(c api.Change) int64 { return c.ID + c.Node.ID + c.Rel.ID }

func TestApplyOfDiff(t *testing.T) {
	c := chance{rand.New(rand.NewPCG(5, 5))}
	l := c.many(t, 60)
	for _, a := range l {
		for _, b := range l {
			changes, e := graph.Diff(a, b)
			got, f := graph.Apply(a, changes...)
			if e != api.OK || f != api.OK || !alike(got, b) || !graph.Same(got, b) {
				t.Fatalf("%v %v\n%v\n%v", e, f, a, b)
			}
			is(t, "none just of the same", len(changes) == 0, alike(a, b))
			is(t, "in their order", slices.IsSortedFunc(changes, func(x, y api.Change) int {
				if d := rank(x.Kind) - rank(y.Kind); d != 0 {
					return d
				}
				return int(number(x) - number(y))
			}), true)
			apart(t, l, got)
			for i := range changes { // each is needed
				less, e := graph.Apply(a, slices.Delete(slices.Clone(changes), i, i+1)...)
				is(t, "without one", e == api.OK && alike(less, b), false)
			}
			is(t, "Same", graph.Same(a, b), alike(a, b))
		}
	}
}

// Changes that come of chance make a graph that may be, or are refused.
func TestApplyOfAnything(t *testing.T) {
	c := chance{rand.New(rand.NewPCG(5, 6))}
	l := c.many(t, 20)
	went := 0
	for range 3000 {
		g := l[c.IntN(len(l))]
		var changes []api.Change
		for range c.IntN(4) {
			changes = append(changes, api.Change{Kind: api.ChangeKind(c.IntN(5)), ID: c.number() + 3, Other: c.number() + 5, Node: api.Node{ID: c.number(), Labels: c.names()}, Rel: api.Rel{ID: c.number(), From: c.number(), To: c.number(), Type: c.name(), Props: c.props()}})
		}
		got, e := graph.Apply(g, changes...)
		want, f := applied(g, changes)
		if e != f || !alike(got, want) {
			t.Fatalf("%v %v\n%v\n%v\n%v", e, f, got, want, changes)
		}
		if e == api.OK && len(changes) > 0 {
			went++
		}
	}
	if went < 200 {
		t.Error(went)
	}
}

// applied is another way of Apply.
func applied(g api.Graph, changes []api.Change) (api.Graph, api.Errno) {
	a := &another{graph.Copy(g)}
	for _, c := range changes {
		switch c.Kind {
		case api.ChangeNode, api.ChangeDropNode:
			id := c.ID
			if c.Kind == api.ChangeNode {
				id = c.Node.ID
			}
			a.Nodes = slices.DeleteFunc(a.Nodes, func(n api.Node) bool { return n.ID == id })
			if c.Kind == api.ChangeNode {
				a.Nodes = append(a.Nodes, c.Node)
			}
		case api.ChangeRel, api.ChangeDropRel:
			id := c.ID
			if c.Kind == api.ChangeRel {
				id = c.Rel.ID
			}
			a.Rels = slices.DeleteFunc(a.Rels, func(r api.Rel) bool { return r.ID == id })
			if c.Kind == api.ChangeRel {
				a.Rels = append(a.Rels, c.Rel)
			}
		default:
			a.NextNode, a.NextRel = c.ID, c.Other
		}
	}
	slices.SortFunc(a.Nodes, func(x, y api.Node) int { return int(x.ID - y.ID) })
	slices.SortFunc(a.Rels, func(x, y api.Rel) int { return int(x.ID - y.ID) })
	if graph.Check(a.Graph) != api.OK {
		return api.Graph{}, api.ErrArg
	}
	return a.Graph, api.OK
}

// What is told is the same however often it is asked: no map's order is to be seen.
func TestAnswersComeAgain(t *testing.T) {
	g := made(t, crowd(500, 500))
	other := made(t, crowd(500, 500))
	for range 5 {
		if !reflect.DeepEqual(g.Tell(), other.Tell()) || !slices.Equal(g.Rels(0, 0), other.Rels(0, 0)) || !slices.Equal(slices.Collect(g.Nodes()), slices.Collect(other.Nodes())) {
			t.Fatal("otherwise")
		}
	}
}
