package index_test

import (
	"math/rand/v2"
	"reflect"
	"slices"
	"strconv"
	"strings"
	"testing"

	"lattice/api"
	"lattice/graph"
	"lattice/index"
	"lattice/value"
)

const (
	highest  = int64(1) << 62
	greatest = int64(1<<63 - 1)
	lowest   = -greatest - 1
)

// entry is a node of an index, and its value's text: two values have one text just if they are the same.
type entry struct {
	id    int64
	value string
}

func list(l ...api.Value) api.Value { return value.List(l...) }

func text(v api.Value) string {
	s, e := value.Text(v)
	if e != api.OK {
		return "not a value: " + strconv.Itoa(int(v.Kind))
	}
	return s
}

func prop(key string, v api.Value) api.Prop { return api.Prop{Key: key, Value: v} }

func labels(l ...string) []string { return l }

func node(id int64, labels []string, props ...api.Prop) api.Node {
	return api.Node{ID: id, Labels: labels, Props: props}
}

// with is a node that has the label A, and v under the key k.
func with(id int64, v api.Value) api.Node { return node(id, labels("A"), prop("k", v)) }

// of is a graph of nodes, whose numbers rise.
func of(nodes ...api.Node) api.Graph {
	g := api.Graph{Nodes: nodes}
	if len(nodes) > 0 {
		g.NextNode = nodes[len(nodes)-1].ID + 1
	}
	return g
}

// documented is the chapter's graph.
func documented() api.Graph {
	return of(with(0, value.Int(2)), with(1, value.Int(1)), with(2, value.Int(2)), with(3, value.String("x")),
		node(4, labels("B"), prop("k", value.Int(1))), node(5, labels("A")))
}

// Changes.

func put(n api.Node) api.Change { return api.Change{Kind: api.ChangeNode, Node: n} }

func drop(id int64) api.Change { return api.Change{Kind: api.ChangeDropNode, ID: id} }

// made is the index of A and k of a graph that must be let through.
func made(t *testing.T, g api.Graph) *index.Index { return madeOf(t, g, "A", "k") }

func madeOf(t *testing.T, g api.Graph, label, key string) *index.Index {
	t.Helper()
	x, e := index.Make(g, label, key)
	if e != api.OK || x == nil {
		t.Fatal("Make", e, x)
	}
	return x
}

func change(t *testing.T, x *index.Index, l ...api.Change) {
	t.Helper()
	if e := x.Change(l...); e != api.OK {
		t.Fatal("Change", e)
	}
}

func entries(x *index.Index) []entry {
	var out []entry
	for id, v := range x.Entries() {
		out = append(out, entry{id, text(v)})
	}
	return out
}

// is holds what was answered against what the chapter asks for.
func is[T comparable](t *testing.T, what string, got, want T) {
	t.Helper()
	if got != want {
		t.Errorf("%s: %v, not %v", what, got, want)
	}
}

// are holds lists against each other; no list and an empty one are the same.
func are[T comparable](t *testing.T, what string, got []T, want ...T) {
	t.Helper()
	if !slices.Equal(got, want) {
		t.Errorf("%s: %v, not %v", what, got, want)
	}
}

// spare is a list with room behind it, in which something stands.
func spare[T any](behind T, l ...T) []T {
	return append(append(make([]T, 0, len(l)+1), l...), behind)[:len(l)]
}

// whole is a list with what stands in the room behind it.
func whole[T any](l []T) []T { return l[:cap(l)] }

func pick[T any](r *rand.Rand, l ...T) T { return l[r.IntN(len(l))] }

// some are things of a list by chance, in their order.
func some[T any](r *rand.Rand, l ...T) []T {
	return slices.DeleteFunc(slices.Clone(l), func(T) bool { return r.IntN(2) == 0 })
}

// stored are values that properties may have, in order, each once.
func stored() []api.Value {
	return []api.Value{
		list(), list(value.String("")), list(value.String("a")), list(value.String("a"), value.String("a")), list(value.String("b")),
		list(value.Bool(false)), list(value.Bool(false), value.Bool(true)), list(value.Bool(true)),
		list(value.Int(-1)), list(value.Int(1)), list(value.Int(1), value.Int(2)), list(value.Int(2)),
		value.String(""), value.String("1"), value.String("A"), value.String("a"), value.String("a\x00"), value.String("ab"), value.String("true"), value.String("é"),
		value.Bool(false), value.Bool(true),
		value.Int(lowest), value.Int(-1), value.Int(0), value.Int(1), value.Int(2), value.Int(greatest),
	}
}

// other are values that may be, but not be stored.
func other() []api.Value {
	return []api.Value{
		value.Null(), list(value.Null()), list(value.Int(1), value.Null()), list(value.Null(), value.Int(1)), list(value.Int(1), value.String("a")), list(list()),
		{Kind: api.ValueMap}, {Kind: api.ValueMap, Keys: []string{"k"}, List: []api.Value{value.Int(1)}},
		{Kind: api.ValueNode}, {Kind: api.ValueNode, Int: 1}, {Kind: api.ValueRel, Int: 1}, list(api.Value{Kind: api.ValueNode}),
	}
}

// refused are values that layer 1 refuses, each near to one that may be stored.
func refused() []api.Value {
	return []api.Value{
		{Kind: 8}, {Kind: -1}, {Kind: 8, Int: 1}, {Int: 1}, {Text: "x"}, {List: []api.Value{{}}},
		{Kind: api.ValueInt, Int: 1, Bool: true}, {Kind: api.ValueInt, Int: 1, Text: "1"}, {Kind: api.ValueBool, Bool: true, Int: 1},
		{Kind: api.ValueText, Text: "a", Int: 1}, value.String("\xff"), value.String(strings.Repeat("x", api.MaxText+1)),
		list(api.Value{Kind: 8}), list(value.Int(1), api.Value{Kind: api.ValueInt, Text: "2"}), {Kind: api.ValueList, Keys: []string{"k"}},
		list(slices.Repeat([]api.Value{value.Int(1)}, api.MaxRows+1)...),
		{Kind: api.ValueNode, Int: -1}, {Kind: api.ValueMap, Keys: []string{"k"}},
	}
}

// notNames are texts that may be no names.
func notNames() []string {
	return []string{"", strings.Repeat("x", api.MaxName+1), strings.Repeat("é", api.MaxName/2) + "x", "a\x00", "\xff", "a\xc3"}
}

// another answers what an index does by going through all nodes each time.
type another struct {
	label, key string
	nodes      []api.Node
}

func (a another) value(n api.Node) (api.Value, bool) {
	for _, p := range n.Props {
		if p.Key == a.key && slices.Contains(n.Labels, a.label) {
			return p.Value, true
		}
	}
	return api.Value{}, false
}

func (a another) find(asked func(api.Value) api.Truth) []int64 {
	var out []int64
	for _, n := range a.nodes {
		if v, in := a.value(n); in && asked(v) == api.TruthTrue {
			out = append(out, n.ID)
		}
	}
	return out
}

func (a another) entries() []entry {
	var in []api.Node
	var values []api.Value
	for _, n := range a.nodes {
		if v, there := a.value(n); there {
			in = append(in, n)
			values = append(values, v)
		}
	}
	var out []entry
	for _, v := range value.Once(value.Sorted(values...)...) {
		for _, n := range in {
			if w, _ := a.value(n); value.Same(v, w) {
				out = append(out, entry{n.ID, text(v)})
			}
		}
	}
	return out
}

// holds holds all that an index answers of these values against the other way, on the nodes that are in the graph now.
func holds(t *testing.T, x *index.Index, g api.Graph, probes ...api.Value) {
	t.Helper()
	label, key := x.Name()
	a := another{label, key, g.Nodes}
	want := a.entries()
	are(t, "Entries", entries(x), want...)
	values := map[string]struct{}{}
	for _, e := range want {
		values[e.value] = struct{}{}
	}
	nodes, once := x.Len()
	is(t, "Len, nodes", nodes, len(want))
	is(t, "Len, values", once, len(values))
	for id := int64(-1); id <= min(g.NextNode, 100); id++ {
		v, in := x.Value(id)
		at := slices.IndexFunc(want, func(e entry) bool { return e.id == id })
		is(t, "Value, whether", in, at >= 0)
		if in && at >= 0 {
			is(t, "Value", text(v), want[at].value)
		} else {
			is(t, "Value beside false", reflect.DeepEqual(v, api.Value{}), true)
		}
	}
	for _, v := range probes {
		finds(t, x, a, v)
	}
}

// finds holds Seek, Below and Above of a value against going through all nodes.
func finds(t *testing.T, x *index.Index, a another, v api.Value) {
	t.Helper()
	equal := a.find(func(w api.Value) api.Truth { return value.Equal(w, v) })
	less := a.find(func(w api.Value) api.Truth { return value.Less(w, v) })
	more := a.find(func(w api.Value) api.Truth { return value.Less(v, w) })
	with := func(l []int64) []int64 { return slices.Sorted(slices.Values(slices.Concat(l, equal))) }
	are(t, "Seek "+text(v), x.Seek(v), equal...)
	are(t, "Below "+text(v), x.Below(v, false), less...)
	are(t, "Below or "+text(v), x.Below(v, true), with(less)...)
	are(t, "Above "+text(v), x.Above(v, false), more...)
	are(t, "Above or "+text(v), x.Above(v, true), with(more)...)
}

// alike holds that two indexes answer the same.
func alike(t *testing.T, what string, x, y *index.Index) {
	t.Helper()
	a, b := x.Name()
	c, d := y.Name()
	is(t, what+": label", a, c)
	is(t, what+": key", b, d)
	are(t, what+": Entries", entries(x), entries(y)...)
	n, k := x.Len()
	m, l := y.Len()
	is(t, what+": nodes", n, m)
	is(t, what+": values", k, l)
}

// chanceNode is a node that comes of chance: few labels, few keys, few values.
func chanceNode(r *rand.Rand, id int64) api.Node {
	n := node(id, some(r, "A", "AB", "B"))
	for _, key := range some(r, "j", "k", "kk") {
		n.Props = append(n.Props, prop(key, pick(r, stored()...)))
	}
	return n
}

// chance is a graph that comes of chance, with gaps between numbers, and some relationships.
func chance(r *rand.Rand) api.Graph {
	var g api.Graph
	for range r.IntN(20) {
		n := chanceNode(r, g.NextNode+int64(r.IntN(3)))
		g.Nodes, g.NextNode = append(g.Nodes, n), n.ID+1
	}
	for range r.IntN(4) {
		if len(g.Nodes) > 0 {
			g.Rels = append(g.Rels, api.Rel{ID: g.NextRel, From: pick(r, g.Nodes...).ID, To: pick(r, g.Nodes...).ID, Type: "A", Props: []api.Prop{prop("k", value.Int(1))}})
			g.NextRel++
		}
	}
	return g
}

// chanceChanges are changes after which the graph may be.
func chanceChanges(t *testing.T, r *rand.Rand, g api.Graph) ([]api.Change, api.Graph) {
	t.Helper()
	for {
		l := []api.Change{{Kind: api.ChangeNext, ID: g.NextNode + 3, Other: g.NextRel + 3}}
		for range r.IntN(12) {
			id := int64(r.IntN(int(g.NextNode) + 3))
			l = append(l, pick(r, put(chanceNode(r, id)), put(chanceNode(r, id)), drop(id),
				api.Change{Kind: api.ChangeDropRel, ID: int64(r.IntN(5))}, api.Change{Kind: api.ChangeRel, Rel: api.Rel{ID: int64(r.IntN(3)), From: id, To: id, Type: "A"}}))
		}
		if after, e := graph.Apply(g, l...); e == api.OK {
			return l, after
		}
	}
}
