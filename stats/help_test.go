package stats_test

import (
	"math/rand/v2"
	"reflect"
	"slices"
	"strconv"
	"testing"

	"lattice/api"
	"lattice/stats"
	"lattice/value"
)

const (
	most     = int64(1) << 62
	greatest = int64(1<<63 - 1)
	lowest   = -greatest - 1
)

func prop(key string, v api.Value) api.Prop { return api.Prop{Key: key, Value: v} }

// Rows of counts.

func label(label string, nodes int64) api.LabelCount {
	return api.LabelCount{Label: label, Nodes: nodes}
}

func kind(kind string, rels int64) api.TypeCount { return api.TypeCount{Type: kind, Rels: rels} }

func in(kind, label string, rels int64) api.EndCount {
	return api.EndCount{Type: kind, Label: label, Rels: rels}
}

func out(kind, label string, rels int64) api.EndCount {
	return api.EndCount{Type: kind, Label: label, Out: true, Rels: rels}
}

func key(label, key string, nodes, values int64) api.KeyCount {
	return api.KeyCount{Label: label, Key: key, Nodes: nodes, Values: values}
}

// Parts of graphs.

func node(id int64, labels []string, props ...api.Prop) api.Node {
	return api.Node{ID: id, Labels: labels, Props: props}
}

func labels(l ...string) []string { return l }

func rel(id, from, to int64, kind string, props ...api.Prop) api.Rel {
	return api.Rel{ID: id, From: from, To: to, Type: kind, Props: props}
}

// of is a graph of nodes and relationships, whose numbers rise.
func of(nodes []api.Node, rels ...api.Rel) api.Graph {
	g := api.Graph{Nodes: nodes, Rels: rels}
	if len(nodes) > 0 {
		g.NextNode = nodes[len(nodes)-1].ID + 1
	}
	if len(rels) > 0 {
		g.NextRel = rels[len(rels)-1].ID + 1
	}
	return g
}

// documented is the chapter's graph.
func documented() api.Graph {
	k := prop("k", value.Int(1))
	return of([]api.Node{node(0, labels("A", "B"), k), node(1, labels("A"), k), node(2, nil)},
		rel(0, 0, 1, "T"), rel(1, 0, 2, "T"), rel(2, 1, 1, "U"))
}

// documentedCounts are the counts that the chapter tells of it.
func documentedCounts() api.Stats {
	return api.Stats{
		Nodes: 3, Rels: 3,
		Labels: []api.LabelCount{label("A", 2), label("B", 1)},
		Types:  []api.TypeCount{kind("T", 2), kind("U", 1)},
		Ends:   []api.EndCount{in("T", "A", 1), out("T", "A", 2), out("T", "B", 2), in("U", "A", 1), out("U", "A", 1)},
		Keys:   []api.KeyCount{key("A", "k", 2, 1), key("B", "k", 1, 1)},
	}
}

// counted are the counts of a graph that must be let through.
func counted(t *testing.T, g api.Graph) api.Stats {
	t.Helper()
	s, no := stats.Count(g)
	if no != api.OK {
		t.Fatal("Count", no)
	}
	return s
}

// alike holds counts against each other without Same; no list and an empty one are the same.
func alike(a, b api.Stats) bool { return reflect.DeepEqual(tidy(a), tidy(b)) }

func tidy(s api.Stats) api.Stats {
	s.Labels, s.Types = append([]api.LabelCount{}, s.Labels...), append([]api.TypeCount{}, s.Types...)
	s.Ends, s.Keys = append([]api.EndCount{}, s.Ends...), append([]api.KeyCount{}, s.Keys...)
	return s
}

// tells holds that a graph's counts are these.
func tells(t *testing.T, g api.Graph, want api.Stats) {
	t.Helper()
	if got := counted(t, g); !alike(got, want) {
		t.Errorf("counts\n%v, not\n%v", got, want)
	}
}

// is holds what was answered against what the chapter asks for.
func is[T comparable](t *testing.T, what string, got, want T) {
	t.Helper()
	if got != want {
		t.Errorf("%s: %v, not %v", what, got, want)
	}
}

// spare is a list with room behind it, in which something stands.
func spare[T any](behind T, l ...T) []T {
	return append(append(make([]T, 0, len(l)+1), l...), behind)[:len(l)]
}

// pick is one of a list, by chance.
func pick[T any](r *rand.Rand, l ...T) T { return l[r.IntN(len(l))] }

// some are things of a list by chance, in their order.
func some[T any](r *rand.Rand, l ...T) []T {
	return slices.DeleteFunc(slices.Clone(l), func(T) bool { return r.IntN(2) == 0 })
}

// storable are values of which some look alike, and two are the same: [] of no list, and of an empty one.
func storable() []api.Value {
	return []api.Value{
		value.Int(1), value.Int(-1), value.String("1"), value.String("'1'"), value.Bool(true), value.String("true"),
		value.List(), {Kind: api.ValueList, List: []api.Value{}}, value.String("[]"), value.List(value.Int(1)), value.List(value.Int(1), value.Int(1)),
		value.List(value.String("1")), value.List(value.String("1, 1")), value.List(value.String("")), value.String(""), value.List(value.Bool(true)),
	}
}

// chance is a graph that comes of chance: with gaps between numbers, few labels, types and keys.
func chance(r *rand.Rand) api.Graph {
	var g api.Graph
	for range r.IntN(9) {
		n := api.Node{ID: g.NextNode + int64(r.IntN(3)), Labels: some(r, "A", "AB", "B", "`")}
		for _, key := range some(r, "a", "b", "k") {
			n.Props = append(n.Props, prop(key, pick(r, storable()...)))
		}
		g.Nodes, g.NextNode = append(g.Nodes, n), n.ID+1
	}
	for range r.IntN(12) {
		if len(g.Nodes) > 0 {
			x := rel(g.NextRel+int64(r.IntN(3)), pick(r, g.Nodes...).ID, pick(r, g.Nodes...).ID, pick(r, "T", "TA", "U"), prop("k", value.Int(1)))
			g.Rels, g.NextRel = append(g.Rels, x), x.ID+1
		}
	}
	return g
}

// crowd is a graph of so many nodes, and so many relationships from one to the next.
func crowd(nodes, rels int) api.Graph {
	g := api.Graph{NextNode: int64(nodes), NextRel: int64(rels)}
	for i := range int64(nodes) {
		g.Nodes = append(g.Nodes, node(i, labels("A", "B"+strconv.FormatInt(i%3, 10)), prop("k", value.Int(i%5))))
	}
	for i := range int64(rels) {
		g.Rels = append(g.Rels, rel(i, i%int64(nodes), (i+1)%int64(nodes), "T"+strconv.FormatInt(i%2, 10)))
	}
	return g
}
