package stats_test

import (
	"math/rand/v2"
	"reflect"
	"slices"
	"strings"
	"testing"

	"lattice/api"
	"lattice/graph"
	"lattice/stats"
	"lattice/value"
)

// P11.1: Count, Same.

func TestCountDocumented(t *testing.T) { tells(t, documented(), documentedCounts()) }

func TestCountNothing(t *testing.T) {
	tells(t, api.Graph{}, api.Stats{})
	tells(t, api.Graph{Nodes: []api.Node{}, Rels: []api.Rel{}, NextNode: 9, NextRel: most}, api.Stats{})
}

func TestCountLabels(t *testing.T) {
	tells(t, of([]api.Node{node(3, nil)}), api.Stats{Nodes: 1})
	tells(t, of([]api.Node{node(0, labels("A"))}), api.Stats{Nodes: 1, Labels: []api.LabelCount{{Label: "A", Nodes: 1}}})
	// Rows rise byte by byte, whatever the order in which the labels come.
	nodes := []api.Node{node(0, labels("a", "é")), node(1, labels("`", "a")), node(2, nil), node(5, labels("AB", "a")), node(6, labels(" ", "A", "Z"))}
	tells(t, of(nodes), api.Stats{Nodes: 5, Labels: []api.LabelCount{label(" ", 1), label("A", 1), label("AB", 1), label("Z", 1), label("`", 1), label("a", 3), label("é", 1)}})
}

func TestCountTypesAndEnds(t *testing.T) {
	nodes := []api.Node{node(0, labels("A", "B")), node(1, labels("B", "C")), node(2, nil)}
	got := counted(t, of(nodes, rel(0, 0, 1, "T"), rel(1, 1, 0, "T"), rel(2, 0, 2, "T"), rel(3, 2, 1, "S"), rel(4, 0, 1, "T"), rel(5, 2, 2, "a b")))
	want := api.Stats{
		Nodes: 3, Rels: 6,
		Labels: []api.LabelCount{label("A", 1), label("B", 2), label("C", 1)},
		Types:  []api.TypeCount{kind("S", 1), kind("T", 4), kind("a b", 1)},
		Ends: []api.EndCount{
			in("S", "B", 1), in("S", "C", 1),
			in("T", "A", 1), out("T", "A", 3), in("T", "B", 3), out("T", "B", 4), in("T", "C", 2), out("T", "C", 1),
		},
	}
	if !alike(got, want) {
		t.Errorf("counts\n%v, not\n%v", got, want)
	}
}

// TestCountOrderOfEnds: a type that another one begins with stands ahead, whatever its labels are.
func TestCountOrderOfEnds(t *testing.T) {
	nodes := []api.Node{node(0, labels("A", "BA")), node(1, labels("B"))}
	got := counted(t, of(nodes, rel(0, 0, 1, "TB"), rel(1, 1, 0, "T"), rel(2, 0, 0, "T")))
	want := []api.EndCount{in("T", "A", 2), out("T", "A", 1), out("T", "B", 1), in("T", "BA", 2), out("T", "BA", 1),
		out("TB", "A", 1), in("TB", "B", 1), out("TB", "BA", 1)}
	if !slices.Equal(got.Ends, want) {
		t.Errorf("%v, not\n%v", got.Ends, want)
	}
}

func TestCountNodeToItself(t *testing.T) {
	tells(t, of([]api.Node{node(7, labels("A"))}, rel(2, 7, 7, "T"), rel(3, 7, 7, "T")), api.Stats{
		Nodes: 1, Rels: 2, Labels: []api.LabelCount{label("A", 1)}, Types: []api.TypeCount{kind("T", 2)},
		Ends: []api.EndCount{in("T", "A", 2), out("T", "A", 2)},
	})
}

func TestCountKeys(t *testing.T) {
	one, list := value.Int(1), value.List(value.String("x"), value.String("y"))
	nodes := []api.Node{
		node(0, labels("A", "B"), prop("k", one), prop("l", list)),
		node(1, labels("A"), prop("k", value.String("1")), prop("l", value.Copy(list))),
		node(2, labels("A", "B"), prop("k", value.Int(1))),
		node(3, labels("B"), prop("k", value.List(one)), prop("l", value.List(value.String("x, y")))),
		node(4, nil, prop("k", value.Bool(true)), prop("z", one)), // what has no label counts under none
		node(5, labels("AB"), prop("j", one)),
		node(6, labels("C")),
	}
	// Neither do the properties of relationships.
	got := counted(t, of(nodes, rel(0, 0, 0, "T", prop("k", value.Int(7)), prop("y", one))))
	want := []api.KeyCount{key("A", "k", 3, 2), key("A", "l", 2, 1), key("AB", "j", 1, 1), key("B", "k", 3, 2), key("B", "l", 2, 2)}
	if !slices.Equal(got.Keys, want) {
		t.Errorf("%v, not\n%v", got.Keys, want)
	}
}

// TestCountValues: values are one just if layer 1 says that they are the same.
func TestCountValues(t *testing.T) {
	for i, a := range storable() {
		for k, b := range storable() {
			s := counted(t, of([]api.Node{node(0, labels("A"), prop("k", a), prop("l", b)), node(1, labels("A"), prop("k", b))}))
			want := int64(2)
			if value.Same(a, b) {
				want = 1
			}
			if !slices.Equal(s.Keys, []api.KeyCount{key("A", "k", 2, want), key("A", "l", 1, 1)}) {
				t.Error(i, k, s.Keys)
			}
		}
	}
}

// TestCountLongValues: values that differ in their last byte alone.
func TestCountLongValues(t *testing.T) {
	long := strings.Repeat("x", api.MaxText-1)
	var nodes []api.Node
	for i, end := range []string{"a", "b", "a", "\x00"} {
		nodes = append(nodes, node(int64(i), labels("A"), prop("k", value.String(long+end))))
	}
	is(t, "Keys", counted(t, of(nodes)).Keys[0], api.KeyCount{Label: "A", Key: "k", Nodes: 4, Values: 3})
}

// again counts a graph by going over all of it for each row.
func again(g api.Graph) api.Stats {
	s := api.Stats{Nodes: int64(len(g.Nodes)), Rels: int64(len(g.Rels))}
	has := func(id int64, label string) bool {
		return slices.ContainsFunc(g.Nodes, func(n api.Node) bool { return n.ID == id && slices.Contains(n.Labels, label) })
	}
	for _, l := range []string{"A", "AB", "B", "`"} {
		row := api.LabelCount{Label: l}
		for _, n := range g.Nodes {
			if has(n.ID, l) {
				row.Nodes++
			}
		}
		if row.Nodes > 0 {
			s.Labels = append(s.Labels, row)
		}
		for _, key := range []string{"a", "b", "k"} {
			var values []api.Value
			for _, n := range g.Nodes {
				for _, p := range n.Props {
					if has(n.ID, l) && p.Key == key {
						values = append(values, p.Value)
					}
				}
			}
			if len(values) > 0 {
				s.Keys = append(s.Keys, api.KeyCount{Label: l, Key: key, Nodes: int64(len(values)), Values: int64(len(value.Once(values...)))})
			}
		}
	}
	for _, kind := range []string{"T", "TA", "U"} {
		n := int64(0)
		for _, r := range g.Rels {
			if r.Type == kind {
				n++
			}
		}
		if n > 0 {
			s.Types = append(s.Types, api.TypeCount{Type: kind, Rels: n})
		}
		for _, l := range []string{"A", "AB", "B", "`"} {
			for _, out := range []bool{false, true} {
				n := int64(0)
				for _, r := range g.Rels {
					if r.Type == kind && (out && has(r.From, l) || !out && has(r.To, l)) {
						n++
					}
				}
				if n > 0 {
					s.Ends = append(s.Ends, api.EndCount{Type: kind, Label: l, Out: out, Rels: n})
				}
			}
		}
	}
	return s
}

func TestCountByChance(t *testing.T) {
	r := rand.New(rand.NewPCG(11, 1))
	for range 3000 {
		g := chance(r)
		got, want := counted(t, g), again(g)
		if !alike(got, want) || !stats.Same(got, want) || !stats.Same(want, counted(t, g)) {
			t.Fatalf("%v\ncounts\n%v, not\n%v", g, got, want)
		}
	}
}

func TestCountAtTheBound(t *testing.T) {
	g := crowd(40000, api.MaxElements-40000)
	s := counted(t, g)
	want := api.Stats{Nodes: 40000, Rels: 25536,
		Labels: []api.LabelCount{label("A", 40000), label("B0", 13334), label("B1", 13333), label("B2", 13333)},
		Types:  []api.TypeCount{kind("T0", 12768), kind("T1", 12768)},
		Ends: []api.EndCount{
			in("T0", "A", 12768), out("T0", "A", 12768),
			in("T0", "B0", 4256), out("T0", "B0", 4256), in("T0", "B1", 4256), out("T0", "B1", 4256), in("T0", "B2", 4256), out("T0", "B2", 4256),
			in("T1", "A", 12768), out("T1", "A", 12768),
			in("T1", "B0", 4256), out("T1", "B0", 4256), in("T1", "B1", 4256), out("T1", "B1", 4256), in("T1", "B2", 4256), out("T1", "B2", 4256),
		},
		Keys: []api.KeyCount{key("A", "k", 40000, 5), key("B0", "k", 13334, 5), key("B1", "k", 13333, 5), key("B2", "k", 13333, 5)},
	}
	if !alike(s, want) {
		t.Errorf("counts\n%v, not\n%v", s, want)
	}
	refuses(t, "one relationship too many", crowd(40000, api.MaxElements-40000+1))
}

// TestCountManyLabels: a node with many labels and many relationships; each label is gone over once, not once for each relationship.
func TestCountManyLabels(t *testing.T) {
	g := crowd(1, api.MaxElements-1)
	var l []string
	for _, a := range "abcdefghijklmnopqrstuvwxyz" {
		for _, b := range "abcdefghijklmnopqrstuvwxyz" {
			for _, c := range "abcdefghijklmnopqrstuvwxyz" {
				l = append(l, string([]rune{a, b, c}))
			}
		}
	}
	g.Nodes[0].Labels = l
	s := counted(t, g)
	is(t, "Labels", len(s.Labels), len(l))
	is(t, "Ends", len(s.Ends), 4*len(l))
	is(t, "the first", s.Ends[0], api.EndCount{Type: "T0", Label: "aaa", Rels: api.MaxElements / 2})
	is(t, "the last", s.Ends[4*len(l)-1], api.EndCount{Type: "T1", Label: "zzz", Out: true, Rels: api.MaxElements/2 - 1})
}

func refuses(t *testing.T, what string, g api.Graph) {
	t.Helper()
	s, no := stats.Count(g)
	if no != api.ErrArg || !reflect.DeepEqual(s, api.Stats{}) {
		t.Errorf("%s: %v, %v", what, no, s)
	}
}

// TestCountRefuses: graphs that may not be, which have much that might be counted.
func TestCountRefuses(t *testing.T) {
	for what, change := range map[string]func(g *api.Graph){
		"numbers that fall":               func(g *api.Graph) { g.Nodes[0].ID, g.Nodes[1].ID = 1, 0 },
		"a number twice":                  func(g *api.Graph) { g.Nodes[1].ID = 0 },
		"a number below 0":                func(g *api.Graph) { g.Nodes[0].ID = -1; g.Rels[0].From, g.Rels[1].From = -1, -1 },
		"a number of the next":            func(g *api.Graph) { g.NextNode = 2 },
		"a relationship's of the next":    func(g *api.Graph) { g.NextRel = 2 },
		"a next number below 0":           func(g *api.Graph) { *g = api.Graph{NextNode: -1} },
		"a next number that is too great": func(g *api.Graph) { g.NextNode = most + 1 },
		"labels that fall":                func(g *api.Graph) { g.Nodes[0].Labels = labels("B", "A") },
		"a label twice":                   func(g *api.Graph) { g.Nodes[0].Labels = labels("A", "A") },
		"a label that is no name":         func(g *api.Graph) { g.Nodes[0].Labels = labels("") },
		"a label of no UTF-8":             func(g *api.Graph) { g.Nodes[0].Labels = labels("\xff") },
		"a label that is too long":        func(g *api.Graph) { g.Nodes[0].Labels = labels(strings.Repeat("x", api.MaxName+1)) },
		"a type that is no name":          func(g *api.Graph) { g.Rels[2].Type = "" },
		"a relationship from nowhere":     func(g *api.Graph) { g.Rels[2].From = 3 },
		"a relationship to nowhere":       func(g *api.Graph) { g.Rels[0].To = -1 },
		"relationships' numbers twice":    func(g *api.Graph) { g.Rels[2].ID = 1 },
		"a key twice":                     func(g *api.Graph) { g.Nodes[0].Props = append(g.Nodes[0].Props, g.Nodes[0].Props...) },
		"a property of null":              func(g *api.Graph) { g.Nodes[0].Props[0].Value = value.Null() },
		"a property of a map":             func(g *api.Graph) { g.Nodes[0].Props[0].Value = api.Value{Kind: api.ValueMap} },
		"a value of no kind":              func(g *api.Graph) { g.Nodes[0].Props[0].Value.Kind = 8 },
		"a relationship's property":       func(g *api.Graph) { g.Rels[0].Props = []api.Prop{prop("k", value.List(value.Null()))} },
	} {
		g := documented()
		for i := range g.Nodes {
			g.Nodes[i].Props = slices.Clone(g.Nodes[i].Props)
		}
		change(&g)
		refuses(t, what, g)
	}
}

// TestCountLeaves: the graph stays as it was, with the room behind its lists; what is answered is memory of its own.
func TestCountLeaves(t *testing.T) {
	roomy := func() api.Graph {
		g := documented()
		for i, n := range g.Nodes {
			g.Nodes[i].Labels, g.Nodes[i].Props = spare("Spare", n.Labels...), spare(prop("spare", value.Int(9)), n.Props...)
		}
		g.Nodes, g.Rels = spare(api.Node{ID: 9}, g.Nodes...), spare(api.Rel{ID: 9, Type: "S"}, g.Rels...)
		return g
	}
	g := roomy()
	first, second := counted(t, g), counted(t, g)
	if !reflect.DeepEqual(g, roomy()) || g.Nodes[:4][3].ID != 9 || g.Rels[:4][3].ID != 9 || g.Nodes[0].Labels[:3][2] != "Spare" || g.Nodes[0].Props[:2][1].Key != "spare" {
		t.Error("what was handed in is changed")
	}
	wipe(first)
	if !alike(second, documentedCounts()) || !graph.Same(g, documented()) {
		t.Error("what is answered is kept")
	}
	wipeGraph(g)
	if !alike(second, documentedCounts()) {
		t.Error("what is handed in is kept")
	}
}

func wipe(s api.Stats) {
	clear(s.Labels)
	clear(s.Types)
	clear(s.Ends)
	clear(s.Keys)
}

func wipeGraph(g api.Graph) {
	for _, n := range g.Nodes {
		clear(n.Labels)
		clear(n.Props)
	}
	clear(g.Nodes)
	clear(g.Rels)
}

func TestSame(t *testing.T) {
	a := documentedCounts()
	is(t, "as told", stats.Same(a, documentedCounts()), true)
	is(t, "nothing", stats.Same(api.Stats{}, api.Stats{Labels: []api.LabelCount{}, Types: []api.TypeCount{}, Ends: []api.EndCount{}, Keys: []api.KeyCount{}}), true)
	for what, change := range map[string]func(s *api.Stats){
		"Nodes":                 func(s *api.Stats) { s.Nodes++ },
		"Rels":                  func(s *api.Stats) { s.Rels-- },
		"a label":               func(s *api.Stats) { s.Labels[1].Label = "C" },
		"a label's Nodes":       func(s *api.Stats) { s.Labels[0].Nodes++ },
		"a type":                func(s *api.Stats) { s.Types[1].Type = "V" },
		"a type's Rels":         func(s *api.Stats) { s.Types[0].Rels++ },
		"an end's type":         func(s *api.Stats) { s.Ends[0].Type = "S" },
		"an end's label":        func(s *api.Stats) { s.Ends[4].Label = "B" },
		"an end's Out":          func(s *api.Stats) { s.Ends[2].Out = false },
		"an end's Rels":         func(s *api.Stats) { s.Ends[3].Rels = 0 },
		"a key's label":         func(s *api.Stats) { s.Keys[1].Label = "C" },
		"a key":                 func(s *api.Stats) { s.Keys[0].Key = "j" },
		"a key's Nodes":         func(s *api.Stats) { s.Keys[0].Nodes = -2 },
		"a key's Values":        func(s *api.Stats) { s.Keys[1].Values = 2 },
		"no label":              func(s *api.Stats) { s.Labels = nil },
		"one label less":        func(s *api.Stats) { s.Labels = s.Labels[:1] },
		"one type less":         func(s *api.Stats) { s.Types = s.Types[1:] },
		"one end more":          func(s *api.Stats) { s.Ends = append(s.Ends, s.Ends[4]) },
		"one key more":          func(s *api.Stats) { s.Keys = append(s.Keys, api.KeyCount{}) },
		"labels the other way":  func(s *api.Stats) { slices.Reverse(s.Labels) },
		"types the other way":   func(s *api.Stats) { slices.Reverse(s.Types) },
		"ends in another order": func(s *api.Stats) { s.Ends[0], s.Ends[1] = s.Ends[1], s.Ends[0] },
		"keys the other way":    func(s *api.Stats) { slices.Reverse(s.Keys) },
		"a row of no UTF-8":     func(s *api.Stats) { s.Labels[0].Label = "A\xff" },
	} {
		b := documentedCounts()
		change(&b)
		if stats.Same(a, b) || stats.Same(b, a) {
			t.Errorf("%s: the same", what)
		}
		if !stats.Same(b, b) {
			t.Errorf("%s: not the same as itself", what)
		}
	}
	// Numbers are held against each other as they stand, not as they count.
	is(t, "below 0", stats.Same(api.Stats{Nodes: -1}, api.Stats{Nodes: -2}), false)
	is(t, "above the cut", stats.Same(api.Stats{Rels: most + 1}, api.Stats{Rels: most}), false)
}
