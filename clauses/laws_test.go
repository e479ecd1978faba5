package clauses_test

import (
	"math/rand/v2"
	"reflect"
	"slices"
	"strings"
	"testing"

	"lattice/api"
	"lattice/clauses"
	"lattice/graph"
	"lattice/match"
	"lattice/syntax"
	"lattice/value"
)

// P9.3.

// shuffled has the rows in another order.
func shuffled(c chance, f api.Frame) api.Frame {
	f.Rows = slices.Clone(f.Rows)
	c.Shuffle(len(f.Rows), func(i, j int) { f.Rows[i], f.Rows[j] = f.Rows[j], f.Rows[i] })
	return f
}

// withoutNumbers is a frame whose elements that CREATE makes have no numbers.
func withoutNumbers(f api.Frame, old int) [][]api.Value {
	var rows [][]api.Value
	for _, row := range f.Rows {
		l := slices.Clone(row)
		for i := old; i < len(l); i++ {
			l[i].Int = 0
		}
		rows = append(rows, l)
	}
	return match.Order(rows)
}

// kinds are a graph's nodes and relationships without their numbers.
func kinds(a api.Graph) []string {
	var l []string
	for _, n := range a.Nodes {
		n.ID = 0
		l = append(l, drawn(must(graph.Make(api.Graph{Nodes: []api.Node{n}, NextNode: 1}))))
	}
	for _, r := range a.Rels {
		r.ID, r.From, r.To = 0, 0, 0
		l = append(l, drawn(must(graph.Make(api.Graph{Nodes: make([]api.Node, 1), Rels: []api.Rel{r}, NextNode: 1, NextRel: 1}))))
	}
	slices.Sort(l)
	return l
}

// numbersCount tells whether a clause of CREATE gets a frame with nodes whose numbers a new one may get: whether they are there in time hangs on the rows' order.
func numbersCount(a api.Graph, f api.Frame, c api.Clause) bool {
	return c.Kind == api.ClauseCreate && slices.ContainsFunc(f.Rows, func(row []api.Value) bool {
		return slices.ContainsFunc(row, func(v api.Value) bool { return v.Kind == api.ValueNode && v.Int >= a.NextNode })
	})
}

// What a clause answers does not hang on the order of the rows, but for CREATE's numbers and what SET sets last.
func TestRowsInAnyOrder(t *testing.T) {
	c := chance{rand.New(rand.NewPCG(9, 3))}
	changed := map[api.ClauseKind]int{}
	for range 40000 {
		a, f, x, params := c.graph(), c.frame(), c.clause(t), c.params()
		g, h := made(t, a), made(t, a)
		one, no := do(t, g, f, x, params...)
		other, wrong := do(t, h, shuffled(c, f), x, params...)
		if numbersCount(a, f, x) {
			continue
		}
		same := no == wrong
		switch x.Kind {
		case api.ClauseCreate:
			same = same && reflect.DeepEqual(withoutNumbers(one, len(f.Vars)), withoutNumbers(other, len(f.Vars))) && slices.Equal(kinds(g.Tell()), kinds(h.Tell()))
		case api.ClauseSet:
			same = same && clauses.Same(one, other)
		default:
			same = same && clauses.Same(one, other) && graph.Same(g.Tell(), h.Tell())
		}
		if !same {
			t.Fatalf("%s %s: %s: %s, %s", toldVars(f.Vars), told(f, api.OK), textOf(x), told(one, no), told(other, wrong))
		}
		if no == api.OK && len(f.Rows) > 2 {
			changed[x.Kind]++
		}
	}
	for kind := api.ClauseMatch; kind <= api.ClauseReturn; kind++ {
		if changed[kind] < 200 {
			t.Error(kind, changed[kind])
		}
	}
}

// What is set last, and which numbers there are, does hang on it.
func TestWhatHangsOnTheOrder(t *testing.T) {
	f := frame("n:a x", row(node(0), value.Int(1)), row(node(0), value.Int(2)))
	turned := frame("n:a x", row(node(0), value.Int(2)), row(node(0), value.Int(1)))
	one := func(t *testing.T) *graph.Graph { return plain(t, 1) }
	holdGraphs(t, one, f, draws{"SET a.k = x", "n0 1;n0 2;", "0 {k: 2}; 1 0"}, draws{"CREATE (b {k: x})", "n0 1 n1;n0 2 n2;", "0; 1 {k: 1}; 2 {k: 2}; 3 0"})
	holdGraphs(t, one, turned, draws{"SET a.k = x", "n0 1;n0 2;", "0 {k: 1}; 1 0"}, draws{"CREATE (b {k: x})", "n0 1 n2;n0 2 n1;", "0; 1 {k: 2}; 2 {k: 1}; 3 0"})
}

// The columns' order does not count either, where rows are not put in order by themselves.
func TestVarsInAnyOrder(t *testing.T) {
	f := frame("x y n:a", row(value.Int(2), value.String("b"), node(0)), row(value.Int(1), value.String("a"), node(1)), row(value.Int(2), value.String("a"), node(1)))
	g := frame("n:a x y", row(node(1), value.Int(1), value.String("a")), row(node(0), value.Int(2), value.String("b")), row(node(1), value.Int(2), value.String("a")))
	for _, s := range []string{"RETURN x, y, a", "RETURN x, count(*), collect(y)", "WITH a, x WHERE x = 2", "WITH x, y ORDER BY y, x LIMIT 2", "MATCH (a)-->(b) RETURN a, b, x", "UNWIND [x, y] AS z RETURN z, y", "SET a.k = 1 RETURN x, y, a.k", "DETACH DELETE a RETURN x, a"} {
		if one, other := told(run(t, pair(t), f, s)), told(run(t, pair(t), g, s)); one != other || strings.HasPrefix(one, "!") {
			t.Errorf("%s: %s, %s", s, one, other)
		}
	}
}

// Aggregates of a clause are Fold's of each group's values.
func TestAggregatesAreFolds(t *testing.T) {
	c := chance{rand.New(rand.NewPCG(9, 4))}
	for range 3000 {
		f := frame("g x")
		for range c.IntN(9) {
			f.Rows = append(f.Rows, row(value.Int(c.Int64N(3)), pick(c, c.value(), value.Int(c.Int64N(4)))))
		}
		for _, s := range []string{"count(*)", "count(x)", "sum(x)", "min(x)", "max(x)", "collect(x)", "count(DISTINCT x)", "sum(DISTINCT x)", "max(DISTINCT x)", "collect(DISTINCT x)"} {
			e := readExpr(t, s)
			want := frame("g v")
			no := api.OK
			for n := range int64(3) {
				var l []api.Value
				for _, row := range f.Rows {
					if row[0].Int == n {
						l = append(l, row[1])
					}
				}
				v, wrong := clauses.Fold(e, l...)
				if wrong != api.OK {
					no = wrong
				} else if len(l) > 0 {
					want.Rows = append(want.Rows, row(value.Int(n), v))
				}
			}
			if no != api.OK {
				want = api.Frame{}
			}
			if got, wrong := run(t, empty(t), f, "WITH g, "+s+" AS v"); wrong != no || !clauses.Same(got, want) {
				t.Fatalf("%s: %s: %s, not %s", told(f, api.OK), s, told(got, wrong), told(want, no))
			}
		}
	}
}

// A graph that a clause went wrong on goes on as if nothing had been, with the numbers that it had.
func TestGraphsGoOn(t *testing.T) {
	g := pair(t)
	other := g.Copy()
	f := frame("n:a x", row(node(0), value.Int(1)), row(node(1), value.Int(0)))
	for _, s := range []string{"CREATE (b {k: 1 / x})-[:U]->(a)", "SET a.k = 1 / x, a:B", "SET a:B, a.k = CASE WHEN x = 0 THEN {} ELSE 1 END", "DELETE a", "CREATE (b), (c {k: [[x]]})"} {
		run(t, g, f, s)
	}
	holdSame := func(name string) {
		if !graph.Same(g.Tell(), other.Tell()) || !slices.Equal(g.Rels(0, 0), other.Rels(0, 0)) || !slices.Equal(g.Labelled("A"), other.Labelled("A")) {
			t.Errorf("%s: %s, not %s", name, drawn(g), drawn(other))
		}
	}
	holdSame("went wrong")
	for _, h := range []*graph.Graph{g, other} {
		h.AddRel(1, 0, "U", nil)
		h.AddNode([]string{"B"}, nil)
	}
	holdSame("went on")
	for _, h := range []*graph.Graph{g, other} {
		if got := told(run(t, h, f, "CREATE (a)-[r:V]->(b {k: x}) DETACH DELETE a")); got != "null 0 null n5;null 1 null n4;" {
			t.Error(got)
		}
	}
	holdSame("was changed")
	// What was copied of it ahead of a clause does not change with it.
	kept := g.Copy()
	before := drawn(kept)
	run(t, g, frame("n:a", row(node(4))), "SET a.k = 77, a:Z DELETE a")
	if drawn(kept) != before || drawn(g) == before {
		t.Error("graphs meet")
	}
}

// rich is a frame whose values have memory, with spare room behind each list.
func rich() api.Frame {
	l := api.Value{Kind: api.ValueList, List: append(make([]api.Value, 0, 4), value.Int(1), value.List(value.Int(2)), node(0))}
	m := api.Value{Kind: api.ValueMap, Keys: append(make([]string, 0, 3), "k"), List: append(make([]api.Value, 0, 3), value.List(value.Int(3), rel(0)))}
	f := api.Frame{Vars: append(make([]api.Var, 0, 6), api.Var{Name: "m"}, api.Var{Name: "a", Kind: api.VarNode}, api.Var{Name: "r", Kind: api.VarRel}, api.Var{Name: "l"})}
	f.Rows = make([][]api.Value, 0, 4)
	for _, row := range [][]api.Value{{m, node(1), rel(0), l}, {l, node(0), rel(0), m}, {m, node(1), rel(0), l}} {
		f.Rows = append(f.Rows, append(make([]api.Value, 0, 7), row...))
	}
	return f
}

func richParams() []api.Param {
	return append(make([]api.Param, 0, 3), param("p", value.List(value.Int(7), value.List(value.Int(8)))), param("q", value.Int(1)))
}

// rooms tells a frame with all the room behind its lists.
func rooms(f api.Frame) any {
	vars, rows := slices.Clone(f.Vars[:cap(f.Vars)]), slices.Clone(f.Rows[:cap(f.Rows)])
	var lists [][]api.Value
	for i, row := range rows {
		rows[i] = row[:cap(row)]
		for _, v := range row {
			lists = append(lists, v.List[:cap(v.List)])
		}
	}
	return []any{vars, rows, lists}
}

// lasting are clauses that use all that a rich frame has.
func lasting() []string {
	return []string{
		"MATCH (c)", "MATCH (a)-[s]-(c)", "OPTIONAL MATCH (c:C) WHERE c.k = $q", "UNWIND [l, m] AS y", "UNWIND l AS y", "UNWIND $p AS y",
		"WITH l, m, l AS n", "WITH DISTINCT m, a", "WITH l, m ORDER BY l DESC, m SKIP 1 LIMIT $q WHERE true", "RETURN l, m ORDER BY m DESC", "RETURN l, [l, m], $p", "RETURN l, collect(m), min(l), max(m), count(*), $p AS p",
		"RETURN collect(l), collect(DISTINCT m), collect($p)", "CREATE (c {k: $p[0]})-[s:U {k: [a.k]}]->(a)", "CREATE (c:B:A), (c)-[:T]->(d)", "SET a.k = $p[1], r.l = 1, a:Z", "SET a.k = null", "REMOVE a.k, a:A, r.w", "DELETE r", "DETACH DELETE a",
		// What goes wrong, and what is refused.
		"UNWIND m AS y", "RETURN sum(l)", "CREATE (c {k: l})", "SET a.k = m", "DELETE a", "DELETE l", "MATCH (l)", "RETURN 1 / 0", "WITH l LIMIT -1",
	}
}

// What is handed in is not changed, spare room behind it included.
func TestNothingIsChanged(t *testing.T) {
	f, params := rich(), richParams()
	for _, s := range lasting() {
		c := read(t, s)[0]
		kept := syntax.CopyQuery(api.Query{Clauses: []api.Clause{c}}).Clauses[0]
		for range 2 {
			do(t, pair(t), f, c, params...)
		}
		clauses.Check(f)
		clauses.Same(f, f)
		if !reflect.DeepEqual(c, kept) || !reflect.DeepEqual(f, rich()) || !reflect.DeepEqual(rooms(f), rooms(rich())) || !reflect.DeepEqual(params, richParams()) || params[:3][2].Name != "" {
			t.Fatalf("%s changes something", s)
		}
	}
	values := append(make([]api.Value, 0, 4), value.Int(2), value.Null(), value.List(value.Int(1)))
	kept := slices.Clone(values)
	for _, name := range []string{"count", "sum", "min", "max", "collect"} {
		clauses.Fold(aggregate(name, false), values...)
		clauses.Fold(aggregate(name, true), values...)
		clauses.Fold(aggregate(name, true), values[:1]...)
	}
	ids := append(make([]int64, 0, 4), 3, 1)
	clauses.Without(value.List(values...), ids, ids)
	if !reflect.DeepEqual(values, kept) || !reflect.DeepEqual(values[:4][3], api.Value{}) || !slices.Equal(ids[:4], []int64{3, 1, 0, 0}) {
		t.Error("values are changed")
	}
}

// scribble writes over a value wherever it has memory.
func scribble(v api.Value) {
	l, keys := v.List[:cap(v.List)], v.Keys[:cap(v.Keys)]
	for i, x := range l {
		scribble(x)
		l[i] = value.String("scribbled")
	}
	for i := range keys {
		keys[i] = "scribbled"
	}
}

func scribbleRow(row []api.Value) {
	row = row[:cap(row)]
	for i := range row {
		scribble(row[i])
		row[i] = value.String("scribbled")
	}
}

// Answers share no memory with what was handed in, with the graph, with others, or within themselves.
func TestAnswersAreNewMemory(t *testing.T) {
	for _, s := range lasting() {
		c, f, params, g := read(t, s)[0], rich(), richParams(), pair(t)
		out, no := do(t, g, f, c, params...)
		if no != api.OK {
			continue
		}
		want, after := told(out, no), drawn(g)
		other, _ := do(t, pair(t), f, c, params...)
		for i := range out.Rows {
			for k := range out.Rows[i] {
				v, before := &out.Rows[i][k], told(out, no)
				was := value.Copy(*v)
				scribble(*v)
				*v = was
				if told(out, no) != before {
					t.Fatalf("%s: values share memory", s)
				}
			}
			rest := told(api.Frame{Rows: out.Rows[i+1:]}, no)
			scribbleRow(out.Rows[i])
			if told(api.Frame{Rows: out.Rows[i+1:]}, no) != rest {
				t.Fatalf("%s: rows share memory", s)
			}
		}
		for i := range out.Vars[:cap(out.Vars)] {
			out.Vars[:cap(out.Vars)][i].Name = "scribbled"
		}
		if !reflect.DeepEqual(f, rich()) || !reflect.DeepEqual(rooms(f), rooms(rich())) || !reflect.DeepEqual(params, richParams()) || drawn(g) != after || told(other, no) != want {
			t.Errorf("%s shares memory", s)
		}
		for i := range f.Rows {
			scribbleRow(f.Rows[i])
		}
		for _, p := range params {
			scribble(p.Value)
		}
		if told(other, no) != want || drawn(g) != after {
			t.Errorf("%s keeps memory", s)
		}
	}
	l := value.List(value.Int(1), value.List(value.Int(2)))
	for name, make := range map[string]func() api.Value{
		"min":     func() api.Value { return must(clauses.Fold(aggregate("min", false), l, l)) },
		"max":     func() api.Value { return must(clauses.Fold(aggregate("max", true), l)) },
		"collect": func() api.Value { return must(clauses.Fold(aggregate("collect", false), l, l)) },
		"once":    func() api.Value { return must(clauses.Fold(aggregate("collect", true), l, l)) },
		"without": func() api.Value { return clauses.Without(l, []int64{1}, nil) },
	} {
		v, other := make(), make()
		want := toldValue(other, api.OK)
		if name == "collect" {
			scribble(v.List[0])
			if toldValue(v.List[1], api.OK) != "[1, [2]]" {
				t.Error("collect shares memory within itself")
			}
		}
		scribble(v)
		if toldValue(l, api.OK) != "[1, [2]]" || toldValue(other, api.OK) != want || toldValue(make(), api.OK) != want {
			t.Errorf("%s shares memory", name)
		}
	}
}

// A graph keeps what it is given in memory of its own, and what it was, though it is put back.
func TestNothingIsKept(t *testing.T) {
	g, f := pair(t), some()
	c := read(t, "RETURN x, count(*), collect(y), min(a) ORDER BY x DESC")[0]
	wrong := read(t, "RETURN x, 1 / (x - 1)")[0]
	want := told(clauses.Do(g, f, c))
	done := make(chan string)
	for range 4 {
		go func() {
			clauses.Do(g, f, wrong)
			done <- told(clauses.Do(g, f, c))
		}()
	}
	for range 4 {
		if got := <-done; got != want {
			t.Error(got)
		}
	}
}
