package match_test

import (
	"math/rand/v2"
	"reflect"
	"slices"
	"strings"
	"testing"

	"lattice/api"
	"lattice/graph"
	"lattice/match"
	"lattice/syntax"
	"lattice/value"
)

// P8.3.

// byNames tells rows by the names of their columns, so that the order of the new Vars, and that of rows, do not count.
func byNames(p api.Place, c api.Clause, rows [][]api.Value) []string {
	names := slices.Concat(p.Columns, match.Vars(p.Columns, c))
	var out []string
	for _, row := range rows {
		var l []string
		for i, v := range row {
			l = append(l, names[i]+"="+told([][]api.Value{{v}}, api.OK))
		}
		slices.Sort(l)
		out = append(out, strings.Join(l, " "))
	}
	slices.Sort(out)
	return out
}

// shuffled has its paths in another order.
func shuffled(c chance, x api.Clause) api.Clause {
	x.Paths = slices.Clone(x.Paths)
	c.Shuffle(len(x.Paths), func(i, j int) { x.Paths[i], x.Paths[j] = x.Paths[j], x.Paths[i] })
	return x
}

// turned has some paths told from their right ends.
func turned(c chance, x api.Clause) api.Clause {
	x.Paths = slices.Clone(x.Paths)
	for i, p := range x.Paths {
		if c.IntN(3) == 0 {
			continue
		}
		p.Nodes, p.Rels = slices.Clone(p.Nodes), slices.Clone(p.Rels)
		slices.Reverse(p.Nodes)
		slices.Reverse(p.Rels)
		for j := range p.Rels {
			p.Rels[j].Dir = -p.Rels[j].Dir
		}
		x.Paths[i] = p
	}
	return x
}

func TestOtherwiseTold(t *testing.T) {
	c := chance{rand.New(rand.NewPCG(8, 4))}
	several, long := 0, 0
	for range 20000 {
		g, _ := graph.Make(c.graph())
		p := c.place()
		x := c.clause(p.Columns...)
		rows, no := match.Find(g, p, x)
		n, _ := match.Ways(g, p, x)
		for _, y := range []api.Clause{shuffled(c, x), turned(c, x), turned(c, shuffled(c, x))} {
			l, wrong := match.Find(g, p, y)
			if (wrong == api.OK) != (no == api.OK) || !slices.Equal(byNames(p, x, rows), byNames(p, y, l)) {
				t.Fatalf("%v: %s: %s; %s: %s", p, textOf(x), told(rows, no), textOf(y), told(l, wrong))
			}
			if k, _ := match.Ways(g, p, y); k != n {
				t.Fatalf("%v: %s: %d; %s: %d", p, textOf(x), n, textOf(y), k)
			}
			if len(rows) > 0 && len(x.Paths) > 1 && !syntax.Same(api.Query{Clauses: []api.Clause{x}}, api.Query{Clauses: []api.Clause{y}}) {
				several++
			}
			if len(rows) > 0 && len(x.Paths[0].Rels) > 0 {
				long++
			}
		}
	}
	if several < 1000 || long < 1000 {
		t.Error(several, long)
	}
}

// Where no Var is new twice, the rows of the one order are those of the other, with the new Vars' values in other places.
func TestPathsInAnyOrder(t *testing.T) {
	g := world(t)
	p := place("x", node(0))
	a, b, d := "(a)-[r:T]->(b)", "(c {k: 1})", "(x)-[s]->(d:B)"
	want := byNames(p, clause(t, a+","+b+","+d), mustFind(t, g, p, a+","+b+","+d))
	if len(want) != 6 {
		t.Fatal(want)
	}
	for _, s := range []string{a + "," + d + "," + b, b + "," + a + "," + d, b + "," + d + "," + a, d + "," + a + "," + b, d + "," + b + "," + a} {
		if got := byNames(p, clause(t, s), mustFind(t, g, p, s)); !slices.Equal(got, want) {
			t.Errorf("%s: %v, not %v", s, got, want)
		}
	}
	hold(t, g, api.Place{},
		finds{"(a)-[r:T]->(b)-[s:V]->(c)", "n1 r1 n2 r3 n0;"},
		finds{"(c)<-[s:V]-(b)<-[r:T]-(a)", "n0 r3 n2 r1 n1;"},
	)
}

func mustFind(t *testing.T, g *graph.Graph, p api.Place, text string) [][]api.Value {
	t.Helper()
	l, no := match.Find(g, p, clause(t, text))
	if no != api.OK {
		t.Fatal(text, no)
	}
	return l
}

// A path of one node finds each node.
func TestEachNode(t *testing.T) {
	c := chance{rand.New(rand.NewPCG(8, 5))}
	for range 300 {
		a := c.graph()
		g, _ := graph.Make(a)
		var want [][]api.Value
		for _, n := range a.Nodes {
			want = append(want, []api.Value{node(n.ID)})
		}
		if got := mustFind(t, g, api.Place{}, "(a)"); !sameRows(got, want) {
			t.Fatal(told(got, api.OK))
		}
		if n, no := match.Ways(g, api.Place{}, clause(t, "()")); n != len(want) || no != api.OK {
			t.Fatal(n, no)
		}
	}
}

// A graph that is changed is found as it is.
func TestGraphsThatAreChanged(t *testing.T) {
	g := plain(t, 2)
	hold(t, g, api.Place{}, finds{"(a)-[r]->(b)", ""})
	g.AddRel(1, 0, "T", nil)
	hold(t, g, api.Place{}, finds{"(a)-[r]->(b)", "n1 r0 n0;"}, finds{"(a:A)", ""})
	g.SetLabel(0, "A", true)
	g.SetProp(false, 1, "k", value.Int(7))
	hold(t, g, api.Place{}, finds{"(a:A)", "n0;"}, finds{"(a {k: 7})", "n1;"}, finds{"(a {k: 1})", ""})
	g.Drop(true, 0)
	g.Drop(false, 0)
	hold(t, g, place("a", node(0)), finds{"(a)", ""}, finds{"(b)", "n0 n1;"})
}

// rich is a place whose values have memory, with spare room behind each list.
func rich() api.Place {
	l := append(make([]api.Value, 0, 4), value.Int(1), value.List(value.Int(2)))
	m := api.Value{Kind: api.ValueMap, Keys: append(make([]string, 0, 3), "k"), List: append(make([]api.Value, 0, 3), value.List(value.Int(3)))}
	p := api.Place{Columns: append(make([]string, 0, 6), "l", "m", "x"), Row: append(make([]api.Value, 0, 6), api.Value{Kind: api.ValueList, List: l}, m, node(0))}
	p.Params = append(make([]api.Param, 0, 3), api.Param{Name: "p", Value: value.List(value.Int(1))})
	return p
}

// room is a place with all the room behind its lists.
func room(p api.Place) api.Place {
	out := api.Place{Columns: p.Columns[:cap(p.Columns)], Row: slices.Clone(p.Row[:cap(p.Row)]), Params: p.Params[:cap(p.Params)]}
	for i, v := range out.Row {
		out.Row[i].Keys, out.Row[i].List = v.Keys[:cap(v.Keys)], v.List[:cap(v.List)]
	}
	return out
}

// What is handed in is not changed, spare room behind it included.
func TestNothingIsChanged(t *testing.T) {
	g := world(t)
	before := g.Tell()
	p := rich()
	for _, s := range []string{"(a)-[r]->(b)", "(x)-[r]->(b) WHERE a", "(x)--(b), (c {k: l[0]}) WHERE size(l) = 2 AND m.k = [3]", "OPTIONAL MATCH (a:C) WHERE $p = l", "(a {k: $p})", "(l)", "(a)-[r]->(x) WHERE 1 / 0", "(a), (b), (c), (d), (e), (f)"} {
		c := clause(t, s)
		c.Paths = append(make([]api.Path, 0, len(c.Paths)+1), c.Paths...)
		kept := syntax.CopyQuery(api.Query{Clauses: []api.Clause{c}})
		for range 2 {
			match.Find(g, p, c)
			match.Ways(g, p, c)
			match.Kinds(g, p, c)
			match.Vars(p.Columns, c)
		}
		if !syntax.Same(kept, api.Query{Clauses: []api.Clause{c}}) || !reflect.DeepEqual(c.Paths[:cap(c.Paths)][len(c.Paths)], api.Path{}) {
			t.Errorf("%s is changed", s)
		}
		if !reflect.DeepEqual(p, rich()) || !reflect.DeepEqual(room(p), room(rich())) || !graph.Same(g.Tell(), before) {
			t.Fatalf("%s changes something", s)
		}
	}
	rows := append(make([][]api.Value, 0, 4), rich().Row[:3], rich().Row[:2], nil)
	match.Order(rows)
	match.Less(rows[0], rows[1])
	if !reflect.DeepEqual(rows, [][]api.Value{rich().Row, rich().Row[:2], nil}) || rows[:4][3] != nil {
		t.Error("rows are changed")
	}
}

// scribble writes over a value wherever it has memory.
func scribble(v api.Value) {
	for i, x := range v.List[:cap(v.List)] {
		scribble(x)
		v.List[i] = value.String("scribbled")
	}
	for i := range v.Keys[:cap(v.Keys)] {
		v.Keys[i] = "scribbled"
	}
}

func scribbleRow(row []api.Value) {
	row = row[:cap(row)]
	for i := range row {
		scribble(row[i])
		row[i] = value.String("scribbled")
	}
}

// Answers share no memory with what was handed in, with others, or within themselves.
func TestAnswersAreNewMemory(t *testing.T) {
	g := world(t)
	p := rich()
	for _, s := range []string{"(a)", "(a)-->(b)", "OPTIONAL MATCH (a:C)", "()", "(a) WHERE a.k = 1"} {
		c := clause(t, s)
		rows, no := match.Find(g, p, c)
		other, _ := match.Find(g, p, c)
		if no != api.OK || len(rows) == 0 {
			t.Fatal(s, no)
		}
		want := told(rows, api.OK)
		for i := range rows {
			rest := told(append(slices.Clone(rows[:i]), rows[i+1:]...), api.OK)
			scribbleRow(rows[i])
			if told(append(slices.Clone(rows[:i]), rows[i+1:]...), api.OK) != rest {
				t.Errorf("%s: rows share memory", s)
			}
		}
		if !reflect.DeepEqual(p, rich()) || told(other, api.OK) != want || told(match.Find(g, p, c)) != want {
			t.Errorf("%s shares memory", s)
		}
		scribbleRow(rows[:cap(rows)][0])
		names := match.Vars(p.Columns, c)
		for i := range names {
			names[i] = "scribbled"
		}
		vars, _ := match.Kinds(g, p, c)
		for i := range vars {
			vars[i].Name = "scribbled"
		}
		if told(match.Find(g, p, c)) != want || !reflect.DeepEqual(p, rich()) {
			t.Errorf("%s shares memory", s)
		}
	}
	row := rich().Row
	rows := [][]api.Value{row, row, row[:2]}
	out := match.Order(rows)
	want := told(out, api.OK)
	again := match.Order(rows)
	for i := range out {
		rest := told(append(slices.Clone(out[:i]), out[i+1:]...), api.OK)
		scribbleRow(out[i])
		if told(append(slices.Clone(out[:i]), out[i+1:]...), api.OK) != rest {
			t.Error("rows share memory")
		}
	}
	if !reflect.DeepEqual(row, rich().Row) || told(again, api.OK) != want {
		t.Error("rows share memory")
	}
}

// What is kept apart from the answers is nothing: calls at the same time do not meet.
func TestNothingIsKept(t *testing.T) {
	g := world(t)
	c := clause(t, "(a)-[r]->(b), (c {k: 1}) WHERE id(a) < 3")
	want := told(match.Find(g, api.Place{}, c))
	done := make(chan string)
	for range 4 {
		go func() { done <- told(match.Find(g, api.Place{}, c)) }()
	}
	for range 4 {
		if got := <-done; got != want {
			t.Error(got)
		}
	}
}
