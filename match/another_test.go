package match_test

import (
	"math/rand/v2"
	"slices"
	"strings"
	"testing"

	"lattice/api"
	"lattice/expr"
	"lattice/graph"
	"lattice/match"
	"lattice/sema"
	"lattice/syntax"
	"lattice/value"
	"lattice/words"
)

// P8.1: another way of finding: each part is given each element, and then it is asked whether that is a way.

type another struct {
	api.Graph
	api.Place
	made *graph.Graph
}

// piece is a part: the path's number, its own, and what it asks for.
type piece struct {
	path, at int
	rel      bool
	name     string
	tags     []string
	has      bool
	props    api.Expr
	want     []api.Prop
}

func pieces(c api.Clause) (l []piece) {
	for i, p := range c.Paths {
		for j, n := range p.Nodes {
			if j > 0 {
				r := p.Rels[j-1]
				l = append(l, piece{path: i, at: j - 1, rel: true, name: r.Var, tags: r.Types, has: r.Has, props: r.Props})
			}
			l = append(l, piece{path: i, at: j, name: n.Var, tags: n.Labels, has: n.Has, props: n.Props})
		}
	}
	return l
}

// column is the first one of a name.
func (m another) column(name string) (api.Value, bool) {
	at := slices.Index(m.Columns, name)
	if at < 0 || name == "" {
		return api.Value{}, false
	}
	return m.Row[at], true
}

func (m another) vars(c api.Clause) (l []string) {
	for _, x := range pieces(c) {
		if _, is := m.column(x.name); !is && x.name != "" && !slices.Contains(l, x.name) {
			l = append(l, x.name)
		}
	}
	return l
}

func (m another) kinds(c api.Clause) []api.Var {
	l := []api.Var{}
	for i, name := range m.Columns {
		kind := api.VarAny
		switch m.Row[i].Kind {
		case api.ValueNode:
			kind = api.VarNode
		case api.ValueRel:
			kind = api.VarRel
		case api.ValueNull:
			if at := slices.IndexFunc(pieces(c), func(x piece) bool { return x.name == name }); at >= 0 && name != "" {
				kind = api.VarNode
				if pieces(c)[at].rel {
					kind = api.VarRel
				}
			}
		}
		l = append(l, api.Var{Name: name, Kind: kind})
	}
	return l
}

// asked is ErrArg, or OK. The parameters are sought in the clause's text.
func (m another) asked(c api.Clause) api.Errno {
	bad := func(v api.Value) bool { return value.Check(v) != api.OK }
	if slices.ContainsFunc(m.Row, bad) || slices.ContainsFunc(m.Params, func(p api.Param) bool { return bad(p.Value) }) {
		return api.ErrArg
	}
	if _, no := sema.Clause(c, m.kinds(c)...); no != api.OK || len(m.Row) != len(m.Columns) {
		return api.ErrArg
	}
	text, no := syntax.Print(api.Query{Clauses: []api.Clause{c}})
	if no != api.OK {
		panic(text)
	}
	after := false
	for _, w := range words.All(text) {
		if after && !slices.ContainsFunc(m.Params, func(p api.Param) bool { return p.Name == w.Text }) {
			return api.ErrArg
		}
		after = w.Kind == api.WordSign && w.Text == "$"
	}
	return api.OK
}

// way tells whether a choice of elements, by their places among the graph's, is a way.
func (m another) way(c api.Clause, l []piece, choice []int) bool {
	nodes, rels := map[[2]int]api.Node{}, map[[2]int]api.Rel{}
	for i, x := range l {
		tags, props := []string(nil), []api.Prop(nil)
		if x.rel {
			r := m.Rels[choice[i]]
			rels[[2]int{x.path, x.at}] = r
			props = r.Props
			if len(x.tags) > 0 && !slices.Contains(x.tags, r.Type) {
				return false
			}
		} else {
			n := m.Nodes[choice[i]]
			nodes[[2]int{x.path, x.at}] = n
			tags, props = n.Labels, n.Props
			if slices.ContainsFunc(x.tags, func(s string) bool { return !slices.Contains(tags, s) }) {
				return false
			}
			if v, is := m.column(x.name); is && !value.Same(v, node(n.ID)) {
				return false
			}
		}
		for _, w := range x.want {
			if !slices.ContainsFunc(props, func(p api.Prop) bool { return p.Key == w.Key && value.Equal(p.Value, w.Value) == api.TruthTrue }) {
				return false
			}
		}
		for j, y := range l[:i] {
			if x.rel && y.rel && choice[i] == choice[j] || !x.rel && !y.rel && x.name != "" && x.name == y.name && choice[i] != choice[j] {
				return false
			}
		}
	}
	for at, r := range rels {
		left, right := nodes[at].ID, nodes[[2]int{at[0], at[1] + 1}].ID
		there, back := r.From == left && r.To == right, r.From == right && r.To == left
		dir := c.Paths[at[0]].Rels[at[1]].Dir
		if dir == 1 && !there || dir == -1 && !back || !there && !back {
			return false
		}
	}
	return true
}

// tells are the rows that all ways tell.
func (m another) tells(c api.Clause) ([][]api.Value, api.Errno) {
	l := pieces(c)
	for i, x := range l {
		props, no := expr.Props(m.made, m.Place, x.has, x.props)
		if no != api.OK {
			return nil, no
		}
		l[i].want = props
	}
	most := func(i int) int {
		if l[i].rel {
			return len(m.Rels)
		}
		return len(m.Nodes)
	}
	for i := range l {
		if most(i) == 0 {
			return nil, api.OK
		}
	}
	var rows [][]api.Value
	for choice := make([]int, len(l)); ; {
		if m.way(c, l, choice) {
			rows = append(rows, m.row(c, l, choice))
		}
		at := 0
		for ; at < len(l) && choice[at] == most(at)-1; at++ {
			choice[at] = 0
		}
		if at == len(l) {
			slices.SortFunc(rows, value.CompareRows)
			return rows, api.OK
		}
		choice[at]++
	}
}

func (m another) row(c api.Clause, l []piece, choice []int) []api.Value {
	row := slices.Clone(m.Row)
	for _, name := range m.vars(c) {
		at := slices.IndexFunc(l, func(x piece) bool { return x.name == name })
		if l[at].rel {
			row = append(row, rel(m.Rels[choice[at]].ID))
		} else {
			row = append(row, node(m.Nodes[choice[at]].ID))
		}
	}
	return row
}

func (m another) find(c api.Clause) ([][]api.Value, api.Errno) {
	if no := m.asked(c); no != api.OK {
		return nil, no
	}
	rows, no := m.tells(c)
	if no != api.OK {
		return nil, no
	}
	var found [][]api.Value
	for _, row := range rows {
		is := true
		if c.HasWhere {
			if is, no = expr.True(m.made, api.Place{Columns: slices.Concat(m.Columns, m.vars(c)), Row: row, Params: m.Params}, c.Where); no != api.OK {
				return nil, no
			}
		}
		if is {
			found = append(found, row)
		}
	}
	if len(found) == 0 && c.Optional {
		found = append(found, append(slices.Clone(m.Row), make([]api.Value, len(m.vars(c)))...))
	}
	return found, api.OK
}

func (m another) ways(c api.Clause) (int, api.Errno) {
	c.HasWhere, c.Where, c.Optional = false, api.Expr{}, false
	l, no := m.find(c)
	return len(l), no
}

// chance makes graphs, places and clauses.
type chance struct{ *rand.Rand }

func pick[T any](c chance, l ...T) T { return l[c.IntN(len(l))] }

// graph is small, with numbers left out.
func (c chance) graph() api.Graph {
	var g api.Graph
	props := func(key string) []api.Prop {
		if c.IntN(3) == 0 {
			return nil
		}
		return []api.Prop{prop(key, value.Int(1+c.Int64N(2)))}
	}
	for range (1 + c.IntN(5)) % 5 {
		g.NextNode += c.Int64N(2)
		g.Nodes = append(g.Nodes, api.Node{ID: g.NextNode, Labels: pick(c, nil, []string{"A"}, []string{"B"}, []string{"A", "B"}), Props: props("k")})
		g.NextNode++
	}
	for range c.IntN(6) {
		if len(g.Nodes) > 0 {
			g.NextRel += c.Int64N(2)
			g.Rels = append(g.Rels, api.Rel{ID: g.NextRel, From: pick(c, g.Nodes...).ID, To: pick(c, g.Nodes...).ID, Type: pick(c, "T", "U"), Props: props("w")})
			g.NextRel++
		}
	}
	return g
}

func (c chance) place() api.Place {
	var p api.Place
	for _, name := range []string{"x", "y", "x", ""}[:c.IntN(4+c.IntN(2))] {
		p.Columns = append(p.Columns, name)
		p.Row = append(p.Row, pick(c, node(c.Int64N(6)), node(c.Int64N(6)), node(c.Int64N(6)), value.Null(), rel(c.Int64N(6)), value.Int(1), value.List(value.Int(2))))
	}
	p.Params = append(p.Params, api.Param{Name: "p", Value: value.Int(1 + c.Int64N(2))})
	if c.IntN(3) > 0 {
		p.Params = append(p.Params, api.Param{Name: "q", Value: pick(c, value.Int(2), value.Null(), value.Bool(true))})
	}
	// Now and then a value that may not be, though it goes by what it is taken for.
	bad := pick(c, node(-1), api.Value{Kind: api.ValueNode, Int: c.Int64N(3), Text: "x"}, api.Value{Text: "x"}, api.Value{Kind: api.ValueInt, Int: 1, Bool: true}, value.List(value.String("\xff")))
	switch at := c.IntN(40); {
	case at < len(p.Row):
		p.Row[at] = bad
	case at < len(p.Row)+len(p.Params):
		p.Params[at-len(p.Row)].Value = bad
	}
	return p
}

// writer writes clauses that mostly mean something: it knows which names stand there.
type writer struct {
	chance
	columns, nodes, rels []string
}

func (w *writer) props(key string) string {
	if w.IntN(5) > 0 {
		return ""
	}
	of := append([]string{"1", "2", "1", "2", "$p", "$q", "null", "1 + 0", "1 / 0", "1 + 'x'"}, w.columns...)
	v := pick(w.chance, of...)
	if slices.Contains(w.columns, v) {
		v = pick(w.chance, v+".k", "CASE WHEN "+v+" IS NULL THEN 1 / 0 ELSE 1 END", "abs("+v+".k)")
	}
	return " {" + key + ": " + v + "}"
}

func (w *writer) node() string {
	name := pick(w.chance, append([]string{"", "", "a", "a", "b", "b", "c", "d"}, w.columns...)...)
	w.nodes = append(w.nodes, name)
	return "(" + name + pick(w.chance, "", "", "", "", ":A", ":B", ":A:B") + w.props("k") + ")"
}

func (w *writer) rel() string {
	name := pick(w.chance, "", []string{"r", "s", "t"}[len(w.rels)])
	if w.IntN(30) == 0 {
		name = pick(w.chance, "x", "a", "r")
	}
	w.rels = append(w.rels, name)
	in := name + pick(w.chance, "", "", "", ":T", ":U", ":T|U") + w.props("w")
	return pick(w.chance, "-["+in+"]->", "<-["+in+"]-", "-["+in+"]-")
}

func (w *writer) where() string {
	names := slices.DeleteFunc(slices.Concat(w.nodes, w.nodes, w.columns), func(s string) bool { return s == "" })
	if len(names) == 0 || w.IntN(40) == 0 {
		names = append(names, "nobody")
	}
	n, m := pick(w.chance, names...), pick(w.chance, names...)
	return pick(w.chance,
		"true", "false", "null", n+".k = 1", n+".k <> "+m+".k", n+":A", "id("+n+") = id("+m+")", n+" = "+m, n+" <> "+m, "$p = "+n+".k", "$q", n,
		"1 / (id("+n+") - 1) = 1", "1 / id("+m+") = 0", n+".k = 1 OR 1 / 0 = 1", n+".k < 9 AND "+m+":B", n+" IS NULL", "id("+n+") < id("+m+")",
		"CASE WHEN id("+n+") = 1 THEN 1 / 0 WHEN id("+m+") = 2 THEN 1 + 'x' WHEN id("+n+") = 3 THEN 7 ELSE true END",
		"CASE WHEN id("+n+") > id("+m+") THEN 1 + 'x' WHEN id("+n+") < id("+m+") THEN 1 / 0 ELSE true END",
		"CASE WHEN "+n+":A AND "+m+":B THEN 1 + 'x' = 1 WHEN "+n+":B THEN 1 / 0 = 1 ELSE true END",
	)
}

// clause has some pieces, so few that all choices can be gone through.
func (c chance) clause(columns ...string) api.Clause {
	w := writer{chance: c, columns: slices.DeleteFunc(slices.Clone(columns), func(s string) bool { return s == "" })}
	left := 1 + c.IntN(6)
	text := pick(c, "MATCH ", "MATCH ", "OPTIONAL MATCH ")
	for first := true; left > 0; first = false {
		if !first {
			text += ", "
		}
		text += w.node()
		for left--; left > 1 && c.IntN(4) > 0; left -= 2 {
			text += w.rel() + w.node()
		}
	}
	if c.IntN(2) == 0 {
		text += " WHERE " + w.where()
		for c.IntN(3) == 0 {
			text += " AND " + w.where()
		}
	}
	q, at, no := syntax.Parse(text)
	if no != api.OK {
		panic(text[at:])
	}
	return q.Clauses[0]
}

func textOf(c api.Clause) string {
	s, _ := syntax.Print(api.Query{Clauses: []api.Clause{c}})
	return s
}

func TestAnotherWay(t *testing.T) {
	c := chance{rand.New(rand.NewPCG(8, 1))}
	counts := map[string]int{}
	for range 30000 {
		m := another{Graph: c.graph(), Place: c.place()}
		m.made, _ = graph.Make(m.Graph)
		x := c.clause(m.Columns...)
		want, no := m.find(x)
		got, wrong := match.Find(m.made, m.Place, x)
		if told(got, wrong) != told(want, no) {
			t.Fatalf("%v: %s: %s, not %s", m.Place, textOf(x), told(got, wrong), told(want, no))
		}
		n, no2 := m.ways(x)
		if k, wrong := match.Ways(m.made, m.Place, x); k != n || wrong != no2 {
			t.Fatalf("%v: %s: %d %v, not %d %v", m.Place, textOf(x), k, wrong, n, no2)
		}
		if l := match.Vars(m.Columns, x); !slices.Equal(l, m.vars(x)) {
			t.Fatalf("%v: %s: %v", m.Place, textOf(x), l)
		}
		l, wrong := match.Kinds(m.made, m.Place, x)
		if wrong != m.asked(x) || wrong == api.OK && !slices.Equal(l, m.kinds(x)) {
			t.Fatalf("%v: %s: %v %v", m.Place, textOf(x), l, wrong)
		}
		counts[strings.Trim(told(nil, no), "!")]++
		if refuses := func(v api.Value) bool { return value.Check(v) != api.OK }; slices.ContainsFunc(m.Row, refuses) {
			counts["bad row"]++
		} else if slices.ContainsFunc(m.Params, func(p api.Param) bool { return refuses(p.Value) }) {
			counts["bad parameter"]++
		}
		if x.Optional && n == 0 && no == api.OK {
			counts["optional"]++
		}
		if len(want) > 1 {
			counts["rows"]++
		}
		if x.HasWhere && len(want) > 0 && len(want) < n {
			counts["where"]++
		}
		if len(x.Paths) > 1 && len(want) > 0 {
			counts["paths"]++
		}
	}
	for _, name := range []string{"", "arg", "zero", "type", "rows", "where", "paths", "optional", "bad row", "bad parameter"} {
		if counts[name] < 300 {
			t.Error(name, counts[name])
		}
	}
}
