package clauses_test

import (
	"math/big"
	"math/rand/v2"
	"slices"
	"strings"
	"testing"

	"lattice/api"
	"lattice/clauses"
	"lattice/expr"
	"lattice/graph"
	"lattice/match"
	"lattice/sema"
	"lattice/value"
)

// P9.1: another way of doing clauses, on a graph as lists: all that is asked is asked ahead of all that is done, groups and order are found by holding all rows against each other.

type another struct {
	api.Frame
	now    api.Graph
	ahead  *graph.Graph
	params []api.Param
	behind []api.Var
}

// anotherDo is what Do answers, and the graph behind it.
func anotherDo(t *testing.T, a api.Graph, f api.Frame, c api.Clause, params ...api.Param) (out api.Frame, now api.Graph, no api.Errno) {
	bad := func(v api.Value) bool { return value.Check(v) != api.OK }
	vars, refused := sema.Clause(c, f.Vars...)
	if refused != api.OK || !anotherCheck(f) || slices.ContainsFunc(params, func(p api.Param) bool { return bad(p.Value) }) {
		return api.Frame{}, a, api.ErrArg
	}
	m := &another{Frame: f, now: graph.Copy(a), ahead: made(t, a), params: params, behind: vars}
	defer func() {
		if r := recover(); r != nil {
			out, now, no = api.Frame{}, a, r.(api.Errno)
		}
	}()
	var rows [][]api.Value
	switch c.Kind {
	case api.ClauseMatch:
		rows = m.match(c)
	case api.ClauseUnwind:
		rows = m.unwind(c)
	case api.ClauseWith, api.ClauseReturn:
		rows = m.told(c)
	case api.ClauseCreate:
		rows = m.create(c)
	case api.ClauseSet, api.ClauseRemove:
		rows = m.set(c)
	case api.ClauseDelete:
		rows = m.delete(c)
	}
	if len(rows) > api.MaxRows {
		panic(api.ErrWrong)
	}
	if c.Kind != api.ClauseReturn {
		rows = match.Order(rows)
	}
	return api.Frame{Vars: vars, Rows: rows}, m.now, api.OK
}

func anotherCheck(f api.Frame) bool {
	for i, v := range f.Vars {
		for _, w := range f.Vars[:i] {
			if v.Name == w.Name {
				return false
			}
		}
		for _, row := range f.Rows {
			if len(row) != len(f.Vars) {
				return false
			}
			x := row[i]
			if value.Check(x) != api.OK || v.Kind == api.VarNode && !slices.Contains([]api.ValueKind{api.ValueNull, api.ValueNode}, x.Kind) || v.Kind == api.VarRel && !slices.Contains([]api.ValueKind{api.ValueNull, api.ValueRel}, x.Kind) {
				return false
			}
		}
	}
	return len(f.Vars) > 0 || !slices.ContainsFunc(f.Rows, func(l []api.Value) bool { return len(l) > 0 })
}

func (m *another) place(vars []api.Var, row []api.Value) api.Place {
	p := api.Place{Row: row, Params: m.params}
	for _, v := range vars {
		p.Columns = append(p.Columns, v.Name)
	}
	return p
}

func must[T any](v T, no api.Errno) T {
	if no != api.OK {
		panic(api.ErrWrong)
	}
	return v
}

func (m *another) worth(vars []api.Var, row []api.Value, e api.Expr) api.Value {
	return must(expr.Eval(m.ahead, m.place(vars, row), e))
}

func (m *another) at(row []api.Value, name string) api.Value {
	return row[slices.IndexFunc(m.Vars, func(v api.Var) bool { return v.Name == name })]
}

func (m *another) match(c api.Clause) (rows [][]api.Value) {
	for _, row := range m.Rows {
		rows = append(rows, must(match.Find(m.ahead, m.place(m.Vars, row), c))...)
	}
	return rows
}

func (m *another) unwind(c api.Clause) (rows [][]api.Value) {
	for _, row := range m.Rows {
		switch v := m.worth(m.Vars, row, c.Expr); v.Kind {
		case api.ValueNull:
		case api.ValueList:
			for _, x := range v.List {
				rows = append(rows, append(slices.Clone(row), x))
			}
		default:
			panic(api.ErrWrong)
		}
	}
	return rows
}

// told puts rows in place one by one: each behind all that are not behind it.
func (m *another) told(c api.Clause) [][]api.Value {
	rows := m.items(c)
	if c.Distinct {
		var l [][]api.Value
		for _, row := range rows {
			if !slices.ContainsFunc(l, func(other []api.Value) bool { return value.CompareRows(row, other) == 0 }) {
				l = append(l, row)
			}
		}
		rows = l
	}
	var sorted, keys [][]api.Value
	for _, row := range rows {
		var key []api.Value
		for _, k := range c.Order {
			key = append(key, m.worth(m.behind, row, k.Expr))
		}
		at := 0
		for at < len(sorted) && !m.isAhead(c, key, row, keys[at], sorted[at]) {
			at++
		}
		sorted, keys = slices.Insert(sorted, at, row), slices.Insert(keys, at, key)
	}
	rows = sorted
	for _, cut := range []struct {
		has bool
		e   api.Expr
		do  func(n int)
	}{{c.HasSkip, c.Skip, func(n int) { rows = rows[n:] }}, {c.HasLimit, c.Limit, func(n int) { rows = rows[:n] }}} {
		if cut.has {
			v := m.worth(nil, nil, cut.e)
			if v.Kind != api.ValueInt || v.Int < 0 {
				panic(api.ErrWrong)
			}
			cut.do(int(min(v.Int, int64(len(rows)))))
		}
	}
	var left [][]api.Value
	for _, row := range rows {
		if !c.HasWhere || must(expr.True(m.ahead, m.place(m.behind, row), c.Where)) {
			left = append(left, row)
		}
	}
	return left
}

func (m *another) isAhead(c api.Clause, key, row, otherKey, other []api.Value) bool {
	for i, k := range c.Order {
		if n := value.Compare(key[i], otherKey[i]); n != 0 {
			return (n < 0) != k.Desc
		}
	}
	return match.Less(row, other)
}

func (m *another) items(c api.Clause) [][]api.Value {
	isAggregate := func(i api.Item) bool { return sema.Aggregate(i.Expr) }
	own := func(row []api.Value) (l []api.Value) {
		for _, i := range c.Items {
			if !isAggregate(i) {
				l = append(l, m.worth(m.Vars, row, i.Expr))
			}
		}
		return l
	}
	var groups [][][]api.Value
	for _, row := range m.Rows {
		at := slices.IndexFunc(groups, func(g [][]api.Value) bool { return value.CompareRows(own(g[0]), own(row)) == 0 })
		if at < 0 || !slices.ContainsFunc(c.Items, isAggregate) {
			groups, at = append(groups, nil), len(groups)
		}
		groups[at] = append(groups[at], row)
	}
	if len(m.Rows) == 0 && !slices.ContainsFunc(c.Items, func(i api.Item) bool { return !isAggregate(i) }) {
		groups = append(groups, nil)
	}
	var rows [][]api.Value
	for _, g := range groups {
		var out []api.Value
		for _, i := range c.Items {
			if isAggregate(i) {
				out = append(out, m.fold(i.Expr, g))
			} else {
				out = append(out, m.worth(m.Vars, g[0], i.Expr))
			}
		}
		rows = append(rows, out)
	}
	return rows
}

func (m *another) fold(e api.Expr, rows [][]api.Value) api.Value {
	if e.Kind == api.ExprCount {
		return value.Int(int64(len(rows)))
	}
	var l []api.Value
	for _, row := range rows {
		v := m.worth(m.Vars, row, e.Kids[0])
		if v.Kind != api.ValueNull && !(e.Distinct && slices.ContainsFunc(l, func(x api.Value) bool { return value.Same(x, v) })) {
			l = append(l, v)
		}
	}
	slices.SortFunc(l, value.Compare)
	switch {
	case e.Name == "count":
		return value.Int(int64(len(l)))
	case e.Name == "collect":
		return value.List(l...)
	case e.Name == "sum":
		n := new(big.Int)
		for _, v := range l {
			if v.Kind != api.ValueInt {
				panic(api.ErrWrong)
			}
			n.Add(n, big.NewInt(v.Int))
		}
		if !n.IsInt64() {
			panic(api.ErrWrong)
		}
		return value.Int(n.Int64())
	case len(l) == 0:
		return value.Null()
	case e.Name == "min":
		return l[0]
	}
	return l[len(l)-1]
}

// create makes all there is without a bound, and asks then whether it is too much.
func (m *another) create(c api.Clause) (rows [][]api.Value) {
	for _, row := range m.Rows {
		has := map[string]api.Value{}
		for i, v := range m.Vars {
			has[v.Name] = row[i]
		}
		for _, p := range c.Paths {
			m.createPath(row, p, has)
		}
		var out []api.Value
		for _, v := range m.behind {
			out = append(out, has[v.Name])
		}
		rows = append(rows, out)
	}
	if m.now.NextNode > 1<<62 || m.now.NextRel > 1<<62 || len(m.now.Nodes)+len(m.now.Rels) > api.MaxElements {
		panic(api.ErrMany)
	}
	return rows
}

func (m *another) storable(row []api.Value, has bool, e api.Expr) (l []api.Prop) {
	for _, p := range must(expr.Props(m.ahead, m.place(m.Vars, row), has, e)) {
		if p.Value.Kind != api.ValueNull {
			if !value.Storable(p.Value) {
				panic(api.ErrWrong)
			}
			l = append(l, p)
		}
	}
	return l
}

func (m *another) createPath(row []api.Value, p api.Path, has map[string]api.Value) {
	var ends []int64
	for _, n := range p.Nodes {
		props := m.storable(row, n.Has, n.Props)
		v, there := has[n.Var]
		if there && v.Kind == api.ValueNull {
			panic(api.ErrWrong)
		}
		if !there {
			labels := slices.Compact(slices.Sorted(slices.Values(n.Labels)))
			v = node(m.now.NextNode)
			m.now.Nodes = append(m.now.Nodes, api.Node{ID: v.Int, Labels: labels, Props: props})
			m.now.NextNode++
		}
		if n.Var != "" {
			has[n.Var] = v
		}
		ends = append(ends, v.Int)
	}
	for i, r := range p.Rels {
		made := api.Rel{ID: m.now.NextRel, From: ends[i], To: ends[i+1], Type: r.Types[0], Props: m.storable(row, r.Has, r.Props)}
		if r.Dir == -1 {
			made.From, made.To = made.To, made.From
		}
		if !hasNode(m.now, made.From) || !hasNode(m.now, made.To) {
			panic(api.ErrWrong)
		}
		m.now.Rels = append(m.now.Rels, made)
		m.now.NextRel++
		if r.Var != "" {
			has[r.Var] = rel(made.ID)
		}
	}
}

func hasNode(a api.Graph, id int64) bool {
	return slices.ContainsFunc(a.Nodes, func(n api.Node) bool { return n.ID == id })
}

func (m *another) set(c api.Clause) [][]api.Value {
	var values []api.Value
	for _, row := range m.Rows {
		for _, s := range c.Sets {
			values = append(values, m.worth(m.Vars, row, s.Value))
		}
	}
	for i, row := range m.Rows {
		for j, s := range c.Sets {
			m.setOne(c, s, m.at(row, s.Var), values[i*len(c.Sets)+j])
		}
	}
	return m.Rows
}

func (m *another) setOne(c api.Clause, s api.SetItem, of, v api.Value) {
	if of.Kind == api.ValueNull {
		return
	}
	if s.Kind == api.SetProp && v.Kind != api.ValueNull && !value.Storable(v) {
		panic(api.ErrWrong)
	}
	setProps := func(l []api.Prop) []api.Prop {
		l = slices.DeleteFunc(slices.Clone(l), func(p api.Prop) bool { return p.Key == s.Key })
		if v.Kind != api.ValueNull {
			l = append(l, api.Prop{Key: s.Key, Value: v})
		}
		slices.SortFunc(l, func(a, b api.Prop) int { return strings.Compare(a.Key, b.Key) })
		return l
	}
	for i, n := range m.now.Nodes {
		if of.Kind == api.ValueNode && n.ID == of.Int {
			if s.Kind == api.SetProp {
				m.now.Nodes[i].Props = setProps(n.Props)
				continue
			}
			l := slices.DeleteFunc(slices.Clone(n.Labels), func(x string) bool { return x == s.Key })
			if c.Kind == api.ClauseSet {
				l = append(l, s.Key)
			}
			m.now.Nodes[i].Labels = slices.Sorted(slices.Values(l))
		}
	}
	for i, r := range m.now.Rels {
		if of.Kind == api.ValueRel && r.ID == of.Int {
			m.now.Rels[i].Props = setProps(r.Props)
		}
	}
}

func (m *another) delete(c api.Clause) (rows [][]api.Value) {
	var nodes, rels []int64
	for _, row := range m.Rows {
		for _, name := range c.Vars {
			switch v := m.at(row, name); v.Kind {
			case api.ValueNode:
				nodes = append(nodes, v.Int)
			case api.ValueRel:
				rels = append(rels, v.Int)
			}
		}
	}
	for _, r := range m.now.Rels {
		if slices.Contains(nodes, r.From) || slices.Contains(nodes, r.To) {
			if c.Detach {
				rels = append(rels, r.ID)
			} else if !slices.Contains(rels, r.ID) {
				panic(api.ErrAttached)
			}
		}
	}
	m.now.Nodes = slices.DeleteFunc(m.now.Nodes, func(n api.Node) bool { return slices.Contains(nodes, n.ID) })
	m.now.Rels = slices.DeleteFunc(m.now.Rels, func(r api.Rel) bool { return slices.Contains(rels, r.ID) })
	for _, row := range m.Rows {
		var out []api.Value
		for _, v := range row {
			out = append(out, anotherWithout(v, nodes, rels))
		}
		rows = append(rows, out)
	}
	return rows
}

func anotherWithout(v api.Value, nodes, rels []int64) api.Value {
	if v.Kind == api.ValueNode && slices.Contains(nodes, v.Int) || v.Kind == api.ValueRel && slices.Contains(rels, v.Int) {
		return value.Null()
	}
	out := v
	out.List = nil
	for _, x := range v.List {
		out.List = append(out.List, anotherWithout(x, nodes, rels))
	}
	return out
}

// chance makes graphs, frames and clauses.
type chance struct{ *rand.Rand }

func pick[T any](c chance, l ...T) T { return l[c.IntN(len(l))] }

// graph is small, with numbers left out; now and then its last numbers are near.
func (c chance) graph() api.Graph {
	var g api.Graph
	props := func(key string) []api.Prop {
		return pick(c, nil, []api.Prop{prop(key, value.Int(1))}, []api.Prop{prop(key, value.Int(2)), prop("z", value.String("s"))})
	}
	for range c.IntN(5) {
		g.NextNode += c.Int64N(2)
		g.Nodes = append(g.Nodes, api.Node{ID: g.NextNode, Labels: pick(c, nil, []string{"A"}, []string{"B"}, []string{"A", "B"}), Props: props("k")})
		g.NextNode++
	}
	for range c.IntN(5) {
		if len(g.Nodes) > 0 {
			g.NextRel += c.Int64N(2)
			g.Rels = append(g.Rels, api.Rel{ID: g.NextRel, From: pick(c, g.Nodes...).ID, To: pick(c, g.Nodes...).ID, Type: pick(c, "T", "U"), Props: props("w")})
			g.NextRel++
		}
	}
	if c.IntN(10) == 0 {
		g.NextNode = 1<<62 - c.Int64N(4)
	}
	if c.IntN(10) == 0 {
		g.NextRel = 1<<62 - c.Int64N(4)
	}
	return g
}

// node is one that is there, or is not, or is made later.
func (c chance) node() api.Value {
	if c.IntN(60) == 0 {
		return node(1<<62 - 3 + c.Int64N(6))
	}
	return pick(c, node(c.Int64N(6)), node(c.Int64N(6)), node(c.Int64N(6)), value.Null())
}

func (c chance) rel() api.Value {
	return pick(c, rel(c.Int64N(6)), rel(c.Int64N(6)), rel(c.Int64N(6)), value.Null())
}

func (c chance) value() api.Value {
	small := value.Int(c.Int64N(4) - 1)
	switch c.IntN(12) {
	case 0:
		return value.Null()
	case 1:
		return value.String(pick(c, "", "a", "b", "1"))
	case 2:
		return value.Bool(c.IntN(2) == 0)
	case 3:
		return value.List(c.node(), c.rel())
	case 4:
		return value.List(small, value.Null(), small)
	case 5:
		return entry(pick(c, "k", "l"), value.List(c.node(), small))
	case 6:
		return value.Int(pick(c, int64(1<<63-1), -1<<63))
	case 7:
		return pick(c, c.node(), c.rel())
	case 8:
		return value.List(small)
	}
	return small
}

// frame has the nodes a and b, the relationship r, and x and y; some of them, with rows that stand twice. Now and then it may not be.
func (c chance) frame() api.Frame {
	all := frame("n:a n:b r:r x y").Vars
	c.Shuffle(len(all), func(i, j int) { all[i], all[j] = all[j], all[i] })
	f := api.Frame{Vars: all[:len(all)-c.IntN(3)]}
	if c.IntN(4) > 0 {
		f.Vars = all
	}
	for range pick(c, 0, 1, 1, 2, 3, 5, 8) {
		var l []api.Value
		for _, v := range f.Vars {
			switch v.Kind {
			case api.VarNode:
				l = append(l, c.node())
			case api.VarRel:
				l = append(l, c.rel())
			default:
				l = append(l, c.value())
			}
		}
		if len(f.Rows) > 0 && c.IntN(3) == 0 {
			l = slices.Clone(pick(c, f.Rows...))
		}
		f.Rows = append(f.Rows, l)
	}
	if c.IntN(60) == 0 && len(f.Rows) > 0 {
		l := pick(c, f.Rows...)
		l[c.IntN(len(l))] = pick(c, node(-1), api.Value{Text: "x"}, value.List(value.String("\xff")), node(1), rel(1), value.Int(1))
	}
	if c.IntN(100) == 0 {
		f.Vars = append(slices.Clone(f.Vars), f.Vars[0])
	}
	return f
}

// scalar is an expression, which may be of any kind.
func (c chance) scalar() string {
	return pick(c, "x", "y", "a.k", "b.k", "r.w", "x + 1", "1", "null", "$p", "x = y", "a", "r", "[x]", "a.z", "coalesce(x, 1)", "id(a)", "labels(b)", "'t'", "[1, 2]", "{k: x}", "x IS NULL", "a:A", "type(r)", "1 / x", "$q", "size(y)", "x.k")
}

// number is an expression that is mostly a number.
func (c chance) number() string {
	return pick(c, "1", "2", "a.k", "b.k", "r.w", "id(a)", "id(b)", "$p", "coalesce(a.k, 0) + 1", "null", "id(r) % 2")
}

func (c chance) truth() string {
	return pick(c, "true", "a.k = 1", "b.k > 0", "a:A", "x IS NULL", "x = 1", "NOT b:B", "a.k = b.k", "r.w IS NOT NULL", "null", "id(a) < id(b)", "a = b", "x", "1 / id(a) = 1", "x > 0", "$p = 1")
}

func (c chance) many(least, most int, between string, what func() string) string {
	var l []string
	for range least + c.IntN(most-least+1) {
		l = append(l, what())
	}
	return strings.Join(l, between)
}

func (c chance) props() string {
	if c.IntN(3) > 0 {
		return ""
	}
	return " {" + pick(c, "k: "+c.number(), "k: "+c.scalar(), "k: 1, l: "+c.number(), "") + "}"
}

func (c chance) match() string {
	one := func() string {
		return "(" + pick(c, "", "a", "b", "c", "d") + pick(c, "", "", ":A", ":B") + c.props() + ")"
	}
	fresh := []string{"s", "t", "u", "", "", ""}
	rel := func() string {
		name := fresh[0]
		fresh = fresh[1:]
		return pick(c, "-["+name+"]->", "<-["+name+":T]-", "-["+name+"]-")
	}
	text := pick(c, "MATCH ", "OPTIONAL MATCH ") + one()
	for range c.IntN(3) {
		text += pick(c, ", ", rel()) + one()
	}
	if c.IntN(2) == 0 {
		text += " WHERE " + c.many(1, 2, " AND ", c.truth)
	}
	return text
}

func (c chance) create() string {
	names := []string{"c", "d", "e", "f"}
	one := func() string {
		if c.IntN(3) == 0 {
			return "(" + pick(c, "a", "b", "", "c", "d") + ")"
		}
		name := names[0]
		names = append(names[1:], "")
		return "(" + name + pick(c, "", ":A", ":B:A:B") + c.props() + ")"
	}
	fresh := []string{"s", "t", "u", "", "", ""}
	text := "CREATE " + one()
	for range c.IntN(3) {
		if c.IntN(3) == 0 {
			text += ", " + one()
			continue
		}
		in := "[" + fresh[0] + pick(c, ":T", ":U") + c.props() + "]"
		fresh = fresh[1:]
		text += pick(c, "-"+in+"->", "<-"+in+"-") + one()
	}
	return text
}

func (c chance) told(keyword string) string {
	names := []string{"x", "y", "a", "p1", "p2"}
	item := func() string {
		name := names[0]
		names = names[1:]
		e := pick(c, c.number(), c.scalar(), c.truth(), name)
		if c.IntN(3) == 0 {
			e = pick(c, "count(*)", "count("+e+")", "sum("+c.number()+")", "min("+e+")", "max("+e+")", "collect("+e+")", "count(DISTINCT "+e+")", "sum(DISTINCT "+c.number()+")", "collect(DISTINCT "+e+")", "sum(x)")
		}
		return e + " AS " + name
	}
	text := keyword + pick(c, "", "", " DISTINCT") + " " + c.many(1, 3, ", ", item)
	had := []string{"x", "y", "a"}[:min(3, 5-len(names))]
	key := func() string {
		e := pick(c, had...)
		return pick(c, e, e, "x", e+" IS NULL", "x + 1", e+" = 1", "1", "[y]") + pick(c, "", " DESC", " ASC")
	}
	if c.IntN(2) == 0 {
		text += " ORDER BY " + c.many(1, 2, ", ", key)
	}
	if c.IntN(3) == 0 {
		text += " SKIP " + pick(c, "0", "1", "2", "$p", "-1", "null", "'a'", "1 + 1")
	}
	if c.IntN(3) == 0 {
		text += " LIMIT " + pick(c, "0", "1", "2", "3", "$p", "-1", "$q")
	}
	if keyword == "WITH" && c.IntN(2) == 0 {
		text += " WHERE " + pick(c, "x = 1", "x IS NOT NULL", "x > 0 AND x < 3", "x", "y = x", "a.k = 1")
	}
	return text
}

func (c chance) clause(t *testing.T) api.Clause {
	t.Helper()
	text := ""
	switch c.IntN(8) {
	case 0:
		text = c.match()
	case 1:
		text = "UNWIND " + pick(c, c.scalar(), "[x, y]", "labels(a)", "[x] + [a.k, b]", "[null, [x]]") + " AS z"
	case 2:
		text = c.told("WITH")
	case 3:
		text = c.told("RETURN")
	case 4:
		text = c.create()
	case 5:
		text = "SET " + c.many(1, 4, ", ", func() string {
			return pick(c, "a", "b", "r") + pick(c, ".k = "+c.number(), ".k = "+c.number(), ".w = "+c.number(), ".l = "+c.scalar(), ".k = a.k", ".k = b.k", ".k = r.w")
		}) + pick(c, "", ", a:A", ", b:C", ", a:C, b:A", ", r:A")
	case 6:
		text = "REMOVE " + c.many(1, 3, ", ", func() string { return pick(c, "a.k", "b.k", "r.w", "a:A", "b:B", "b:C", "r.z", "x.k") })
	default:
		text = pick(c, "DELETE ", "DETACH DELETE ") + c.many(1, 3, ", ", func() string { return pick(c, "a", "b", "r", "a", "b", "r", "x") })
	}
	return read(t, text)[0]
}

func (c chance) params() []api.Param {
	l := []api.Param{param("p", value.Int(c.Int64N(3)))}
	if c.IntN(2) == 0 {
		l = append(l, param("q", c.value()), param("p", value.Int(9)))
	}
	if c.IntN(100) == 0 {
		l = append(l, param("bad", pick(c, node(-1), api.Value{Kind: 9})))
	}
	return l
}

func TestAnotherWay(t *testing.T) {
	c := chance{rand.New(rand.NewPCG(9, 1))}
	counts := map[string]int{}
	for range 60000 {
		a, f, x, params := c.graph(), c.frame(), c.clause(t), c.params()
		want, now, no := anotherDo(t, a, f, x, params...)
		g := made(t, a)
		got, wrong := do(t, g, f, x, params...)
		if wrong != no || !clauses.Same(got, want) || !graph.Same(g.Tell(), now) {
			t.Fatalf("%s\n%s %s\n%s: %s, not %s\n%s\n%s", drawn(made(t, a)), toldVars(f.Vars), told(f, api.OK), textOf(x), told(got, wrong), told(want, no), drawn(g), drawn(made(t, now)))
		}
		kind := strings.Fields(textOf(x))[0]
		counts[kind+" "+errorName(no)]++
		if no == api.OK && len(got.Rows) > 1 {
			counts[kind+" rows"]++
		}
		if no == api.OK && !graph.Same(a, now) {
			counts[kind+" changes"]++
		}
		if x.Kind == api.ClauseCreate && len(got.Rows) > 0 && slices.ContainsFunc(now.Rels, func(r api.Rel) bool { return ownNodeMade(a, f, r) }) {
			counts["CREATE made"]++
		}
	}
	for _, s := range strings.Fields("MATCH OPTIONAL UNWIND WITH RETURN CREATE SET REMOVE DELETE DETACH") {
		for _, what := range []string{"arg", "error 0", "rows"} {
			if counts[s+" "+what] < 50 {
				t.Error(s, what, counts[s+" "+what])
			}
		}
	}
	for _, s := range []string{"MATCH wrong", "OPTIONAL wrong", "UNWIND wrong", "WITH wrong", "RETURN wrong", "CREATE wrong", "SET wrong", "CREATE many", "DELETE attached", "CREATE changes", "CREATE made", "SET changes", "REMOVE changes", "DELETE changes", "DETACH changes"} {
		if counts[s] < 50 {
			t.Error(s, counts[s])
		}
	}
}

// ownNodeMade tells whether a relationship is of a node that a frame had before it was there.
func ownNodeMade(a api.Graph, f api.Frame, r api.Rel) bool {
	return slices.ContainsFunc([]int64{r.From, r.To}, func(id int64) bool {
		return !hasNode(a, id) && slices.ContainsFunc(f.Rows, func(row []api.Value) bool {
			return slices.ContainsFunc(row, func(v api.Value) bool { return v.Kind == api.ValueNode && v.Int == id })
		})
	})
}
