package query_test

import (
	"reflect"
	"slices"
	"testing"

	"lattice/api"
	"lattice/query"
	"lattice/syntax"
	"lattice/value"
)

// What is handed in is not changed and not kept; answers are new memory.

// room is where a list lies in memory, with all the room behind it.
type room struct{ from, to uintptr }

// rooms tells where all lists within something lie.
func rooms(v reflect.Value) []room {
	var l []room
	switch v.Kind() {
	case reflect.Struct:
		for i := range v.NumField() {
			l = append(l, rooms(v.Field(i))...)
		}
	case reflect.Slice:
		if size := uintptr(v.Cap()) * v.Type().Elem().Size(); size > 0 {
			l = append(l, room{v.Pointer(), v.Pointer() + size})
		}
		for i := range v.Len() {
			l = append(l, rooms(v.Index(i))...)
		}
	}
	return l
}

// meet tells whether two lists within some things lie in the same memory.
func meet(things ...any) bool {
	var l []room
	for _, x := range things {
		l = append(l, rooms(reflect.ValueOf(x))...)
	}
	slices.SortFunc(l, func(a, b room) int {
		if a.from < b.from {
			return -1
		}
		return 1
	})
	for i := 1; i < len(l); i++ {
		if l[i].from < l[i-1].to {
			return true
		}
	}
	return false
}

// spare is a list with room behind it, in which something stands.
func spare[T any](behind T, l ...T) []T {
	return append(append(make([]T, 0, len(l)+1), l...), behind)[:len(l)]
}

func spareList(l ...api.Value) api.Value {
	return api.Value{Kind: api.ValueList, List: spare(value.Int(-1), l...)}
}

// roomy is the world, with lists as properties, and with room behind each list.
func roomy() api.Graph {
	g := world()
	props := func(l []api.Prop) []api.Prop {
		return spare(prop("spare", value.Int(-1)), append(l, prop("l", spareList(value.Int(1), value.Int(2))))...)
	}
	for i, n := range g.Nodes {
		n.Labels, n.Props = spare("Spare", n.Labels...), props(n.Props[:min(1, len(n.Props))])
		g.Nodes[i] = n
	}
	for i, r := range g.Rels {
		g.Rels[i].Props = props(r.Props[:0])
	}
	g.Nodes, g.Rels = spare(api.Node{ID: 4}, g.Nodes...), spare(api.Rel{ID: 4, Type: "S"}, g.Rels...)
	return g
}

func roomyParams() []api.Param {
	m := api.Value{Kind: api.ValueMap, Keys: spare("z", "a", "b"), List: spare(value.Int(-1), value.Int(1), spareList(value.Int(3)))}
	return spare(param("spare", value.Int(-1)), param("m", m), param("l", spareList(value.Int(1), spareList(value.Int(2)))), param("i", value.Int(1)), param("other", spareList()))
}

// roomyQuery is a query with room behind its lists.
func roomyQuery(t *testing.T, text string) api.Query {
	t.Helper()
	q := read(t, text)
	for i, c := range q.Clauses {
		q.Clauses[i].Items, q.Clauses[i].Paths, q.Clauses[i].Sets, q.Clauses[i].Vars = spare(api.Item{As: "spare"}, c.Items...), spare(api.Path{}, c.Paths...), spare(api.SetItem{Var: "spare"}, c.Sets...), spare("spare", c.Vars...)
	}
	q.Clauses = spare(api.Clause{As: "spare"}, q.Clauses...)
	return q
}

// whole is something with all the room behind its lists.
func whole(x any) any { return stretched(reflect.ValueOf(x)).Interface() }

func stretched(v reflect.Value) reflect.Value {
	out := reflect.New(v.Type()).Elem()
	switch v.Kind() {
	case reflect.Struct:
		for i := range v.NumField() {
			out.Field(i).Set(stretched(v.Field(i)))
		}
	case reflect.Slice:
		for i := range v.Cap() {
			out = reflect.Append(out, stretched(v.Slice(0, v.Cap()).Index(i)))
		}
	default:
		out.Set(v)
	}
	return out
}

// lasting are queries that hand much of what they are given on; and some that are refused, or go wrong.
func lasting() []string {
	return []string{
		"RETURN $m AS x, $m AS y, [$l, $l] AS z, $l[1] AS w",
		"MATCH (a) WITH a, a.l AS l, $l AS p RETURN a, l, l AS m, p, [l, l] AS z",
		"MATCH (a) RETURN collect(a.l), collect(DISTINCT a.l), min(a.l), max(a.l), min($m), collect($m), keys($m) AS k, size($l) AS n",
		"UNWIND [$l, $l] AS x UNWIND [1, 2] AS y WITH x, y, $m AS m ORDER BY y DESC SKIP $i RETURN x, m",
		"MATCH (a)-[r]->(b) SET a.l = $l[0], a.m = a.l, r.l = a.l SET b.n = r.l RETURN a.l, r.l, b.n",
		"CREATE (a:Z:A {l: [1, 2], k: $i})-[r:T {l: [3]}]->(b) CREATE (c {l: a.l}) RETURN a, a.l, labels(a), c.l",
		"MATCH (a) REMOVE a.l, a:A DETACH DELETE a RETURN a, $l AS l",
		"MATCH (a) DETACH DELETE a",
		"RETURN labels($m)", "MATCH (a) SET a.l = $m", "MATCH (a) DELETE a", "MATCH (a) SET a.l = 1 RETURN 1 / 0", "RETURN $none", "RETURN none", "WITH $l AS x",
	}
}

func TestNothingIsChanged(t *testing.T) {
	g, params := roomy(), roomyParams()
	for _, text := range lasting() {
		q := roomyQuery(t, text)
		for range 2 {
			query.Run(g, q, params...)
			query.Text(g, text, params...)
			query.Ask(g, q, params...)
			query.Frames(g, q, params...)
			query.Params(q)
		}
		if !reflect.DeepEqual(whole(g), whole(roomy())) || !reflect.DeepEqual(whole(params), whole(roomyParams())) || !reflect.DeepEqual(whole(q), whole(roomyQuery(t, text))) {
			t.Fatalf("%s changes something", text)
		}
	}
	a := api.Table{Columns: spare("spare", "x"), Rows: spare(nil, spare(value.Int(-1), spareList(value.Int(1))))}
	held := whole(a)
	query.Same(a, a)
	if !reflect.DeepEqual(whole(a), held) {
		t.Error("Same changes something")
	}
}

func TestAnswersAreNewMemory(t *testing.T) {
	ok := 0
	for _, text := range lasting() {
		g, params, q := roomy(), roomyParams(), roomyQuery(t, text)
		one, no := query.Run(g, q, params...)
		two, _ := query.Text(g, text, params...)
		three, _ := query.Frames(g, q, params...)
		four, five := query.Params(q), query.Params(q)
		if meet(g, params, q, one, two, three, four, five) {
			t.Errorf("%s: answers share memory", text)
		}
		if no == api.OK {
			ok++
		}
	}
	if ok != 8 {
		t.Error(ok)
	}
	if l := value.List(value.Int(1)); !meet(l, l) || meet(l, value.Copy(l)) {
		t.Error("meet tells nothing")
	}
}

// Calls do not meet: they may go on side by side on what is handed in, and answer the same.
func TestSideBySide(t *testing.T) {
	g, params := roomy(), roomyParams()
	for _, text := range lasting() {
		q := roomyQuery(t, text)
		want, no := query.Run(g, q, params...)
		done := make(chan bool)
		for range 4 {
			go func() {
				got, other := query.Run(g, q, params...)
				_, text := query.Frames(g, q, params...)
				done <- reflect.DeepEqual(got, want) && other == no && text == no && slices.Equal(query.Params(q), query.Params(syntax.CopyQuery(q)))
			}()
		}
		for range 4 {
			if !<-done {
				t.Errorf("%s: another answer", text)
			}
		}
	}
}
