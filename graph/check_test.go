package graph_test

import (
	"reflect"
	"slices"
	"strings"
	"testing"

	"lattice/api"
	"lattice/graph"
	"lattice/value"
)

// P5.1

// good are graphs that may be.
func good() map[string]api.Graph {
	return map[string]api.Graph{
		"of nothing":            {},
		"of empty lists":        {Nodes: []api.Node{}, Rels: []api.Rel{}},
		"a sample":              sample(),
		"one node":              {Nodes: []api.Node{{}}, NextNode: 1},
		"empty lists within":    {Nodes: []api.Node{{Labels: []string{}, Props: []api.Prop{}}}, Rels: []api.Rel{{Type: "T", Props: []api.Prop{}}}, NextNode: 1, NextRel: 1},
		"next numbers alone":    {NextNode: 5, NextRel: 6},
		"the highest ones":      {Nodes: []api.Node{{ID: highest - 1}}, Rels: []api.Rel{{ID: highest - 1, From: highest - 1, To: highest - 1, Type: "T"}}, NextNode: highest, NextRel: highest},
		"the highest ones next": {NextNode: highest, NextRel: highest},
		"names":                 {Nodes: []api.Node{{Labels: names()}}, NextNode: 1},
		"many nodes":            crowd(api.MaxElements, 0),
		"many relationships":    crowd(1, api.MaxElements-1),
		"many of both":          crowd(api.MaxElements/2, api.MaxElements/2),
		"relationships more":    {Nodes: []api.Node{{ID: 3}, {ID: 9}}, Rels: []api.Rel{{ID: 1, From: 9, To: 3, Type: "T"}}, NextNode: 10, NextRel: 2},
	}
}

// bad are graphs that may not be, each for one reason.
func bad() map[string]api.Graph {
	out := map[string]api.Graph{
		"a node at its next number":             with(func(g *api.Graph) { g.NextNode = 7 }),
		"a node above its next number":          with(func(g *api.Graph) { g.NextNode = 6 }),
		"a relationship at its next number":     with(func(g *api.Graph) { g.NextRel = 6 }),
		"a relationship above it":               with(func(g *api.Graph) { g.NextRel = 0 }),
		"a node twice":                          with(func(g *api.Graph) { g.Nodes = slices.Insert(g.Nodes, 2, api.Node{ID: 2}) }),
		"a node twice, with the number 0":       {Nodes: []api.Node{{}, {}}, NextNode: 1},
		"a relationship twice":                  with(func(g *api.Graph) { g.Rels = slices.Insert(g.Rels, 2, g.Rels[1]) }),
		"nodes that fall":                       with(func(g *api.Graph) { g.Nodes[1], g.Nodes[2] = g.Nodes[2], g.Nodes[1] }),
		"relationships that fall":               with(func(g *api.Graph) { g.Rels[0], g.Rels[1] = g.Rels[1], g.Rels[0] }),
		"a node below 0":                        with(func(g *api.Graph) { g.Nodes = slices.Insert(g.Nodes, 0, api.Node{ID: -1}) }),
		"the lowest node":                       {Nodes: []api.Node{{ID: -1 << 63}}, NextNode: 1},
		"a relationship below 0":                with(func(g *api.Graph) { g.Rels[0].ID = -1 }),
		"NextNode below 0":                      {NextNode: -1},
		"NextRel below 0":                       {NextRel: -1},
		"the lowest NextNode":                   {NextNode: -1 << 63},
		"NextNode above 2^62":                   {NextNode: highest + 1},
		"NextRel above 2^62":                    {NextRel: highest + 1},
		"the greatest NextRel":                  {NextRel: 1<<63 - 1},
		"a node with 2^62":                      {Nodes: []api.Node{{ID: highest}}, NextNode: highest},
		"a node with the greatest number":       {Nodes: []api.Node{{ID: 1<<63 - 1}}, NextNode: 1<<63 - 1},
		"nodes, one too many":                   crowd(api.MaxElements+1, 0),
		"relationships, one too many":           crowd(1, api.MaxElements),
		"both, one too many":                    crowd(api.MaxElements/2, api.MaxElements/2+1),
		"labels that fall":                      with(func(g *api.Graph) { g.Nodes[0].Labels = []string{"B", "A"} }),
		"a label twice":                         with(func(g *api.Graph) { g.Nodes[0].Labels = []string{"A", "B", "B"} }),
		"labels that fall in the last node":     with(func(g *api.Graph) { g.Nodes[3].Labels = []string{"b", "a"} }),
		"keys that fall":                        with(func(g *api.Graph) { g.Nodes[0].Props = []api.Prop{prop("b", 1), prop("a", 1)} }),
		"a key twice":                           with(func(g *api.Graph) { g.Nodes[0].Props = []api.Prop{prop("a", 1), prop("a", 2)} }),
		"keys that fall in a relationship":      with(func(g *api.Graph) { g.Rels[4].Props = []api.Prop{prop("b", 1), prop("a", 1)} }),
		"a key twice in a relationship":         with(func(g *api.Graph) { g.Rels[4].Props = []api.Prop{prop("a", 1), prop("a", 1)} }),
		"null in a node":                        with(func(g *api.Graph) { g.Nodes[2].Props = []api.Prop{{Key: "k"}} }),
		"null in a relationship":                with(func(g *api.Graph) { g.Rels[2].Props = []api.Prop{{Key: "k"}} }),
		"from a node that is not there":         with(func(g *api.Graph) { g.Rels[4].From = 1 }),
		"to a node that is not there":           with(func(g *api.Graph) { g.Rels[0].To = 4 }),
		"from a node below 0":                   with(func(g *api.Graph) { g.Rels[0].From = -1 }),
		"to a node above all":                   with(func(g *api.Graph) { g.Rels[0].To = 8 }),
		"relationships without nodes":           {Rels: []api.Rel{{Type: "T"}}, NextRel: 1},
		"a relationship's node with its number": {Nodes: []api.Node{{ID: 1}}, Rels: []api.Rel{{ID: 0, From: 0, To: 1, Type: "T"}}, NextNode: 2, NextRel: 1},
	}
	for _, s := range notNames() {
		out["label "+s] = with(func(g *api.Graph) { g.Nodes[2].Labels = []string{s} })
		out["key "+s] = with(func(g *api.Graph) { g.Nodes[2].Props = []api.Prop{prop(s, 1)} })
		out["type "+s] = with(func(g *api.Graph) { g.Rels[4].Type = s })
		out["key of a relationship "+s] = with(func(g *api.Graph) { g.Rels[1].Props = []api.Prop{prop(s, 1)} })
	}
	for what, v := range notStored() {
		out[what] = with(func(g *api.Graph) { g.Nodes[2].Props = []api.Prop{prop("a", 1), {Key: "k", Value: v}} })
		out[what+" of a relationship"] = with(func(g *api.Graph) { g.Rels[4].Props[0].Value = v })
	}
	return out
}

func TestCheckLetsThrough(t *testing.T) {
	for what, g := range good() {
		is(t, what, graph.Check(g), api.OK)
	}
	for _, v := range stored() {
		for _, s := range names() {
			p := []api.Prop{{Key: s, Value: v}}
			g := api.Graph{Nodes: []api.Node{{Labels: []string{s}, Props: p}}, Rels: []api.Rel{{Type: s, Props: p}}, NextNode: 1, NextRel: 1}
			is(t, s, graph.Check(g), api.OK)
		}
	}
}

func TestCheckRefuses(t *testing.T) {
	for what, g := range bad() {
		is(t, what, graph.Check(g), api.ErrArg)
	}
}

func TestLabelsRiseByTheirBytes(t *testing.T) {
	l := names()
	for i := range l {
		for k := range l {
			want := api.ErrArg
			if strings.Compare(l[i], l[k]) < 0 {
				want = api.OK
			}
			is(t, l[i]+l[k], graph.Check(api.Graph{Nodes: []api.Node{{Labels: []string{l[i], l[k]}}}, NextNode: 1}), want)
			is(t, l[i]+l[k], graph.Check(api.Graph{Nodes: []api.Node{{Props: []api.Prop{prop(l[i], 0), prop(l[k], 0)}}}, NextNode: 1}), want)
		}
	}
}

// places goes over all that is in a thing but its values, and hands on how to set it to something else and back.
func places(v reflect.Value, name string, f func(name string, change, back func())) {
	old := reflect.New(v.Type()).Elem()
	old.Set(v)
	back := func() { v.Set(old) }
	switch v.Kind() {
	case reflect.Struct:
		if _, is := v.Interface().(api.Value); is {
			f(name, func() { v.Set(reflect.ValueOf(value.String("another one"))) }, back)
			return
		}
		for i := range v.NumField() {
			places(v.Field(i), name+"."+v.Type().Field(i).Name, f)
		}
	case reflect.Slice:
		f(name+" longer", func() { v.Set(reflect.Append(v.Slice3(0, v.Len(), v.Len()), reflect.Zero(v.Type().Elem()))) }, back)
		if v.Len() > 0 {
			f(name+" shorter", func() { v.Set(v.Slice(0, v.Len()-1)) }, back)
			f(name+" gone", func() { v.SetZero() }, back)
		}
		for i := range v.Len() {
			places(v.Index(i), name+"[]", f)
		}
	case reflect.Int64:
		f(name, func() { v.SetInt(v.Int() + 1) }, back)
	case reflect.String:
		f(name, func() { v.SetString(v.String() + "x") }, back)
	}
}

func TestSameInAllParts(t *testing.T) {
	a, b := sample(), sample()
	n := 0
	places(reflect.ValueOf(&b).Elem(), "", func(name string, change, back func()) {
		n++
		change()
		is(t, name, graph.Same(a, b) || graph.Same(b, a), false)
		back()
		is(t, name+" back", graph.Same(a, b), true)
	})
	if n < 80 {
		t.Error(n)
	}
}

func TestSame(t *testing.T) {
	for what, g := range good() {
		is(t, what, graph.Same(g, graph.Copy(g)), true)
		is(t, what, graph.Same(g, api.Graph{NextNode: 1}), false)
	}
	is(t, "nothing and empty", graph.Same(api.Graph{}, api.Graph{Nodes: []api.Node{}, Rels: []api.Rel{}}), true)
	is(t, "nothing and empty within", graph.Same(
		api.Graph{Nodes: []api.Node{{Labels: []string{}, Props: []api.Prop{{Key: "k", Value: list()}}}}, Rels: []api.Rel{{}}},
		api.Graph{Nodes: []api.Node{{Props: []api.Prop{{Key: "k", Value: api.Value{Kind: api.ValueList, List: []api.Value{}}}}}}, Rels: []api.Rel{{Props: []api.Prop{}}}}), true)
	is(t, "a number and a text", graph.Same(
		with(func(g *api.Graph) { g.Nodes[0].Props[0].Value = value.Int(1) }),
		with(func(g *api.Graph) { g.Nodes[0].Props[0].Value = value.String("1") })), false)
	is(t, "lists in another order", graph.Same(
		with(func(g *api.Graph) { g.Rels[0].Props[1].Value = list(value.Int(2), value.Int(1)) }), sample()), false)
	is(t, "labels in another order", graph.Same(with(func(g *api.Graph) { g.Nodes[0].Labels = []string{"B", "A"} }), sample()), false)
	is(t, "nodes in another order", graph.Same(with(func(g *api.Graph) { slices.Reverse(g.Nodes) }), sample()), false)
}

// A graph may be the same as one that may not be, so long as the values of both may be.
func TestSameOfGraphsThatMayNotBe(t *testing.T) {
	for what, g := range bad() {
		want := true
		for _, n := range g.Nodes {
			want = want && !slices.ContainsFunc(n.Props, func(p api.Prop) bool { return value.Check(p.Value) != api.OK })
		}
		for _, r := range g.Rels {
			want = want && !slices.ContainsFunc(r.Props, func(p api.Prop) bool { return value.Check(p.Value) != api.OK })
		}
		is(t, what, graph.Same(g, g), want)
		is(t, what, graph.Same(g, graph.Copy(g)), want)
		is(t, what, graph.Same(g, sample()) || graph.Same(sample(), g), false)
	}
	wrong := api.Graph{Nodes: []api.Node{{Props: []api.Prop{{Value: api.Value{Kind: 9}}}}}}
	is(t, "a value that may not be", graph.Same(wrong, wrong), false)
	deep := api.Graph{Rels: []api.Rel{{Props: []api.Prop{{Value: list(api.Value{Kind: api.ValueText, Text: "\xff"})}}}}}
	is(t, "one that may not be within", graph.Same(deep, deep), false)
}

func TestCopy(t *testing.T) {
	all := bad()
	for what, g := range good() {
		all[what] = g
	}
	shared := sample()
	shared.Nodes = append(shared.Nodes, shared.Nodes[0], shared.Nodes[0])
	shared.Rels = append(shared.Rels, shared.Rels[0])
	all["parts that share memory"] = shared
	v := api.Value{Kind: 9, Bool: true, Int: 3, Text: "\xff", Keys: []string{"a"}, List: []api.Value{{Keys: []string{"b"}}}}
	all["values with everything"] = api.Graph{Nodes: []api.Node{{Props: []api.Prop{{Value: v}}}}, Rels: []api.Rel{{ID: 1, From: 2, To: 3, Type: "T", Props: []api.Prop{{Value: v}}}}}
	for what, g := range all {
		c := graph.Copy(g)
		is(t, what, alike(c, g), true)
		apart(t, g, c)
	}
	g := sample()
	spoil(graph.Copy(g))
	is(t, "behind its copy was changed", alike(g, sample()), true)
}

func TestDeepValues(t *testing.T) {
	v := value.Null()
	for range 1<<16 - 8 {
		v = api.Value{Kind: api.ValueList, List: []api.Value{v}}
	}
	g := api.Graph{Nodes: []api.Node{{Props: []api.Prop{{Key: "k", Value: v}}}}, NextNode: 1}
	is(t, "Check", graph.Check(g), api.ErrArg)
	is(t, "Same", graph.Same(g, graph.Copy(g)), false)
	m := made(t, api.Graph{})
	_, e := m.AddNode(nil, g.Nodes[0].Props)
	is(t, "AddNode", e, api.ErrArg)
}
