package index_test

import (
	"math/rand/v2"
	"slices"
	"strings"
	"testing"

	"lattice/api"
	"lattice/graph"
	"lattice/index"
	"lattice/value"
)

// P12.1: Make, There, Name, Len, Value, Entries.

func TestMakeDocumented(t *testing.T) {
	x := made(t, documented())
	is(t, "There", x.There(), true)
	are(t, "Entries", entries(x), entry{3, "'x'"}, entry{1, "1"}, entry{0, "2"}, entry{2, "2"})
	nodes, values := x.Len()
	is(t, "nodes", nodes, 4)
	is(t, "values", values, 3)
}

func TestMakeOfNothing(t *testing.T) {
	for _, g := range []api.Graph{{}, {Nodes: []api.Node{}, NextNode: highest}, of(node(3, nil)), of(node(0, labels("B")), node(1, labels("A")), node(2, nil, prop("k", value.Int(1))))} {
		x := made(t, g)
		is(t, "There", x.There(), true)
		are(t, "Entries", entries(x))
		holds(t, x, g, append(stored(), other()...)...)
	}
}

// TestMakeTakes: the nodes that have both the label and the property, whatever else they have.
func TestMakeTakes(t *testing.T) {
	one, two := value.Int(1), value.Int(2)
	g := of(
		node(0, labels("A"), prop("k", one)), node(2, labels("A", "B"), prop("j", two), prop("k", one), prop("l", two)), node(3, labels("0", "A"), prop("k", two)),
		node(5, labels("B"), prop("k", one)), node(6, labels("A"), prop("j", one)), node(7, labels("A")), node(8, nil, prop("k", one)),
		node(9, labels("AA", "B"), prop("k", one)), node(10, labels("A"), prop("kk", one)), node(11, labels("a"), prop("k", one)), node(12, labels("A"), prop("K", one)),
	)
	g.Rels, g.NextRel = []api.Rel{{ID: 1, From: 7, To: 7, Type: "A", Props: []api.Prop{prop("k", two)}}}, 2
	x := made(t, g)
	are(t, "Entries", entries(x), entry{0, "1"}, entry{2, "1"}, entry{3, "2"})
	holds(t, x, g, stored()...)
	x = madeOf(t, g, "B", "k")
	are(t, "of B", entries(x), entry{2, "1"}, entry{5, "1"}, entry{9, "1"})
	x = madeOf(t, g, "A", "j")
	are(t, "of j", entries(x), entry{6, "1"}, entry{2, "2"})
	are(t, "of no node", entries(madeOf(t, g, "k", "A")))
}

func TestNames(t *testing.T) {
	for _, name := range []string{"A", "_", "0", " ", "a b", "match", "`", "\x01", "é", strings.Repeat("x", api.MaxName), strings.Repeat("é", api.MaxName/2)} {
		g := of(node(0, labels(name), prop(name, value.Int(7))), with(1, value.Int(8)))
		x := madeOf(t, g, name, name)
		label, key := x.Name()
		is(t, "label", label, name)
		is(t, "key", key, name)
		are(t, "Seek", x.Seek(value.Int(7)), 0)
		label, key = madeOf(t, g, name, "k").Name()
		is(t, "label", label, name)
		is(t, "key", key, "k")
	}
}

// TestEntriesInOrder: values of several kinds stand in the order of values, nodes of one value by their numbers, whatever numbers the nodes have.
func TestEntriesInOrder(t *testing.T) {
	r := rand.New(rand.NewPCG(12, 1))
	for range 50 {
		values := stored()
		worths := append(r.Perm(len(values)), r.Perm(len(values))...)
		r.Shuffle(len(worths), func(i, k int) { worths[i], worths[k] = worths[k], worths[i] })
		var nodes []api.Node
		for id, at := range worths {
			nodes = append(nodes, with(int64(2*id), values[at]))
		}
		var want []entry
		for i, v := range values {
			for id, at := range worths {
				if at == i {
					want = append(want, entry{int64(2 * id), text(v)})
				}
			}
		}
		x := made(t, of(nodes...))
		are(t, "Entries", entries(x), want...)
		n, once := x.Len()
		is(t, "nodes", n, 2*len(values))
		is(t, "values", once, len(values))
	}
}

// TestLen: values count once if they are the same, and only then.
func TestLen(t *testing.T) {
	for i, v := range stored() {
		for k, w := range stored() {
			nodes, values := made(t, of(with(0, v), with(4, w), with(5, v))).Len()
			want := 2
			if i == k {
				want = 1
			}
			is(t, "nodes", nodes, 3)
			is(t, "values of "+text(v)+", "+text(w), values, want)
		}
	}
	// No list is an empty one.
	_, values := made(t, of(with(0, api.Value{Kind: api.ValueList}), with(1, api.Value{Kind: api.ValueList, List: []api.Value{}}))).Len()
	is(t, "values", values, 1)
}

func TestValue(t *testing.T) {
	g := documented()
	g.Nodes = append(g.Nodes, with(highest-1, list(value.Int(1))))
	g.NextNode = highest
	x := made(t, g)
	for id, want := range map[int64]string{0: "2", 1: "1", 2: "2", 3: "'x'", highest - 1: "[1]"} {
		v, in := x.Value(id)
		is(t, "whether", in, true)
		is(t, "value", text(v), want)
	}
	for _, id := range []int64{4, 5, 6, -1, lowest, greatest, highest, highest - 2} {
		v, in := x.Value(id)
		is(t, "whether", in, false)
		is(t, "value", text(v), "null")
	}
}

// TestEntriesLeft: a walk may be left at any time, gone over again, and gone over within itself.
func TestEntriesLeft(t *testing.T) {
	x := made(t, documented())
	all := entries(x)
	walk := x.Entries()
	for n := range len(all) + 1 {
		var got []entry
		for id, v := range walk {
			if len(got) == n {
				break
			}
			got = append(got, entry{id, text(v)})
		}
		are(t, "left", got, all[:n]...)
	}
	var got, within []entry
	for id, v := range walk {
		got = append(got, entry{id, text(v)})
		within = nil
		for id, v := range walk {
			within = append(within, entry{id, text(v)})
		}
		are(t, "within", within, all...)
	}
	are(t, "again", got, all...)
}

// TestEntriesAheadOfAChange: a walk tells what was there when Entries was called.
func TestEntriesAheadOfAChange(t *testing.T) {
	x := made(t, documented())
	walk, before := x.Entries(), entries(x)
	first := []api.Change{put(with(1, value.Int(7))), put(with(9, value.String("a"))), drop(0)}
	change(t, x, first...)
	then, behind := x.Entries(), entries(x)
	var got []entry
	for id, v := range walk {
		got = append(got, entry{id, text(v)})
		change(t, x, drop(id), put(with(20+id, v)), drop(2), drop(9))
	}
	are(t, "ahead", got, before...)
	are(t, "behind", behind, entry{9, "'a'"}, entry{3, "'x'"}, entry{2, "2"}, entry{1, "7"})
	got = nil
	for id, v := range then {
		got = append(got, entry{id, text(v)})
	}
	are(t, "between", got, behind...)
	are(t, "now", entries(x), entry{23, "'x'"}, entry{21, "1"}, entry{20, "2"}, entry{22, "2"})
}

func TestMakeByChance(t *testing.T) {
	r := rand.New(rand.NewPCG(12, 2))
	for range 300 {
		g := chance(r)
		for _, label := range labels("A", "AB", "B", "k") {
			holds(t, madeOf(t, g, label, pick(r, "j", "k", "kk", "A")), g)
		}
	}
}

func TestMakeRefuses(t *testing.T) {
	refuses := func(what string, g api.Graph, label, key string) {
		t.Helper()
		x, e := index.Make(g, label, key)
		if e != api.ErrArg || x != nil {
			t.Errorf("%s: %v, %v", what, e, x)
		}
	}
	for _, name := range notNames() {
		refuses("a label that is no name", documented(), name, "k")
		refuses("a key that is no name", documented(), "A", name)
		refuses("of a graph of nothing", api.Graph{}, name, name)
	}
	for what, change := range map[string]func(g *api.Graph){
		"numbers that fall":                    func(g *api.Graph) { g.Nodes[0], g.Nodes[1] = g.Nodes[1], g.Nodes[0] },
		"a number twice":                       func(g *api.Graph) { g.Nodes[1].ID = 0 },
		"a number below 0":                     func(g *api.Graph) { g.Nodes[0].ID = -1 },
		"a number of the next":                 func(g *api.Graph) { g.NextNode = 5 },
		"a next number that is too great":      func(g *api.Graph) { g.NextNode = highest + 1 },
		"a next relationship's below 0":        func(g *api.Graph) { g.NextRel = -1 },
		"a node that is not in it":             func(g *api.Graph) { g.Nodes[5].Labels = labels("B", "A") },
		"a label that is no name":              func(g *api.Graph) { g.Nodes[5].Labels = labels("") },
		"a property of null":                   func(g *api.Graph) { g.Nodes[0].Props[0].Value = value.Null() },
		"a property of a map":                  func(g *api.Graph) { g.Nodes[4].Props[0].Value = api.Value{Kind: api.ValueMap} },
		"a value of no kind":                   func(g *api.Graph) { g.Nodes[0].Props[0].Value.Kind = 8 },
		"a key twice":                          func(g *api.Graph) { g.Nodes[0].Props = append(g.Nodes[0].Props, g.Nodes[0].Props...) },
		"a relationship from nowhere":          func(g *api.Graph) { g.Rels, g.NextRel = []api.Rel{{From: 9, Type: "T"}}, 1 },
		"a relationship's type that is no one": func(g *api.Graph) { g.Rels, g.NextRel = []api.Rel{{}}, 1 },
		"too many nodes": func(g *api.Graph) {
			for id := int64(6); id <= api.MaxElements; id++ {
				g.Nodes, g.NextNode = append(g.Nodes, api.Node{ID: id}), id+1
			}
		},
	} {
		g := graph.Copy(documented())
		change(&g)
		refuses(what, g, "A", "k")
	}
}

// TestNothing: an index that is nil, or that Make did not make.
func TestNothing(t *testing.T) {
	for what, x := range map[string]*index.Index{"nil": nil, "zero": {}} {
		is(t, what+": There", x.There(), false)
		label, key := x.Name()
		is(t, what+": Name", label+key, "")
		for _, v := range []api.Value{value.Null(), value.Int(1), value.String(""), list(), {Kind: 8}} {
			are(t, what+": Seek", x.Seek(v))
			for _, or := range []bool{false, true} {
				are(t, what+": Below", x.Below(v, or))
				are(t, what+": Above", x.Above(v, or))
			}
		}
		is(t, what+": Entries is there", x.Entries() != nil, true)
		are(t, what+": Entries", entries(x))
		nodes, values := x.Len()
		is(t, what+": Len", nodes+values, 0)
		for id := range int64(3) {
			v, in := x.Value(id - 1)
			is(t, what+": Value", in || text(v) != "null", false)
		}
		is(t, what+": Copy", x.Copy() == nil, true)
		for _, l := range [][]api.Change{nil, {}, {put(with(0, value.Int(1)))}, {drop(0)}, {{Kind: 9}}, {{Kind: -1}}, {put(api.Node{ID: -1})}} {
			is(t, what+": Change", x.Change(l...), api.ErrNil)
		}
		is(t, what+": There still", x.There(), false)
		are(t, what+": Entries still", entries(x))
	}
}

// TestMemory: nothing that is handed in is kept, nothing that is answered is shared.
func TestMemory(t *testing.T) {
	one := list(value.Int(1), value.Int(2))
	g := of(with(0, one), with(1, one))
	x := made(t, g)
	before := entries(x)
	one.List[0] = value.Int(9)
	g.Nodes[1].Labels[0] = "B"
	g.Nodes[0].Props[0] = prop("z", value.Int(1))
	g.Nodes[1] = node(7, nil)
	are(t, "behind a change of the graph", entries(x), before...)
	for range 2 {
		for _, v := range x.Entries() {
			is(t, "of one walk", text(v), "[1, 2]")
			v.List[0], v.List[1] = value.Int(7), value.Null()
		}
		for id := range int64(2) {
			v, _ := x.Value(id)
			is(t, "Value", text(v), "[1, 2]")
			v.List[0] = value.String("x")
		}
		l := x.Seek(list(value.Int(1), value.Int(2)))
		are(t, "Seek", l, 0, 1)
		whole(l)[0] = 5
	}
	y := x.Copy()
	for _, v := range y.Entries() {
		v.List[1] = value.Int(0)
	}
	are(t, "at the end", entries(x), before...)
	are(t, "of the copy", entries(y), before...)
}

// TestMakeLeaves: what is handed in stays as it was, with the room behind its lists.
func TestMakeLeaves(t *testing.T) {
	roomy := func() api.Graph {
		n := node(3, spare("spare", "A", "B"), spare(prop("spare", value.Int(1)), prop("k", api.Value{Kind: api.ValueList, List: spare(value.Int(9), value.Int(2), value.Int(1))}))...)
		return api.Graph{Nodes: spare(with(9, value.Int(9)), with(1, value.Int(2)), n, with(4, value.Int(1))), Rels: spare(api.Rel{ID: 5}), NextNode: 5, NextRel: 2}
	}
	g, was := roomy(), roomy()
	x := made(t, g)
	for range x.Entries() {
		x.Len()
	}
	x.Seek(value.Int(2))
	change(t, x, drop(1), put(with(1, value.Int(0))), put(with(7, value.Int(1))))
	is(t, "the graph", graph.Same(g, was), true)
	is(t, "behind the nodes", graph.Same(api.Graph{Nodes: whole(g.Nodes)}, api.Graph{Nodes: whole(was.Nodes)}), true)
	n := g.Nodes[1]
	are(t, "behind the labels", whole(n.Labels), "A", "B", "spare")
	is(t, "behind the properties", whole(n.Props)[1].Key, "spare")
	is(t, "behind a list", text(list(whole(n.Props[0].Value.List)...)), "[2, 1, 9]")
	is(t, "behind the relationships", whole(g.Rels)[0].ID, 5)
}

// TestAtTheBound: as many nodes as may be.
func TestAtTheBound(t *testing.T) {
	var g api.Graph
	for id := range int64(api.MaxElements) {
		g.Nodes = append(g.Nodes, with(id, value.Int((id*40503)%1000)))
	}
	g.NextNode = api.MaxElements
	x := made(t, g)
	nodes, values := x.Len()
	is(t, "nodes", nodes, api.MaxElements)
	is(t, "values", values, 1000)
	is(t, "all", len(x.Above(value.Int(0), true)), api.MaxElements)
	is(t, "none", len(x.Below(value.Int(0), false)), 0)
	below, above := x.Below(value.Int(500), false), x.Above(value.Int(500), true)
	is(t, "together", len(below)+len(above), api.MaxElements)
	is(t, "below", slices.IsSorted(below) && slices.IsSorted(above), true)
	last := entry{-1, ""}
	at := int64(-1)
	for id, v := range x.Entries() {
		if v.Int < at || v.Int == at && id <= last.id || v.Int != (id*40503)%1000 {
			t.Fatal(last, id, v.Int)
		}
		last, at = entry{id, ""}, v.Int
	}
}
