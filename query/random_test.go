package query_test

import (
	"math/rand/v2"
	"slices"
	"strconv"
	"strings"
	"testing"

	"lattice/api"
	"lattice/sema"
	"lattice/syntax"
	"lattice/value"
)

// Queries by chance, of which most mean something.

type chance struct{ *rand.Rand }

func by(a, b uint64) chance { return chance{rand.New(rand.NewPCG(a, b))} }

func pick[T any](c chance, l ...T) T { return l[c.IntN(len(l))] }

// graph has up to five nodes and seven relationships; at times so high numbers that no more than one or two can come.
func (c chance) graph() api.Graph {
	a := api.Graph{}
	for id := range pick(c, 0, 1, 3, 4, 5) {
		n := api.Node{ID: int64(id), Labels: pick(c, nil, nil, []string{"A"}, []string{"B"}, []string{"A", "B"})}
		if c.IntN(3) > 0 {
			n.Props = []api.Prop{prop("k", c.stored())}
		}
		a.Nodes = append(a.Nodes, n)
	}
	if n := int64(len(a.Nodes)); n > 0 {
		for id := range c.IntN(8) {
			r := api.Rel{ID: int64(id), From: c.Int64N(n), To: c.Int64N(n), Type: pick(c, "T", "T", "U")}
			if c.IntN(2) > 0 {
				r.Props = []api.Prop{prop("k", c.stored())}
			}
			a.Rels = append(a.Rels, r)
		}
	}
	a.NextNode, a.NextRel = int64(len(a.Nodes))+c.Int64N(2), int64(len(a.Rels))+c.Int64N(2)
	if c.IntN(12) == 0 {
		a.NextNode = 1<<62 - c.Int64N(3)
	}
	return a
}

func (c chance) stored() api.Value {
	return pick(c, value.Int(1), value.Int(2), value.Int(c.Int64N(4)), value.String("a"), value.List(value.Int(1), value.Int(2)))
}

// params has all that queries by chance name, and perhaps more.
func (c chance) params() []api.Param {
	l := []api.Param{param("i", pick(c, value.Int(c.Int64N(4)), value.Int(1), value.Null())), param("l", value.List(value.Int(2), value.Int(c.Int64N(3)))), param("a b", pick(c, value.Int(1), value.Bool(true), value.String("a")))}
	if c.IntN(3) == 0 {
		l = append(l, param("z", nested(c.IntN(5), value.Int(1))))
	}
	c.Shuffle(len(l), func(i, j int) { l[i], l[j] = l[j], l[i] })
	return l
}

// maker makes a query, clause by clause, with the variables that there are so far.
type maker struct {
	chance
	vars   []api.Var
	fresh  int
	params bool
}

func (m *maker) names(kinds ...api.VarKind) []string {
	var l []string
	for _, v := range m.vars {
		if slices.Contains(kinds, v.Kind) {
			l = append(l, v.Name)
		}
	}
	return l
}

func (m *maker) one(kinds ...api.VarKind) string {
	l := m.names(kinds...)
	if len(l) == 0 {
		return "null"
	}
	return pick(m.chance, l...)
}

func (m *maker) new(letter string) string {
	m.fresh++
	return letter + strconv.Itoa(m.fresh)
}

func (m *maker) param() string {
	if !m.params {
		return "1"
	}
	return pick(m.chance, "$i", "$i", "size($l)", "$l[0]", "$`a b`")
}

// number is an expression that is a number mostly.
func (m *maker) number(deep int) string {
	switch n := m.IntN(12); {
	case deep == 0 || n < 3:
		return strconv.Itoa(m.IntN(4))
	case n < 5 && len(m.names(api.VarAny)) > 0:
		return m.one(api.VarAny)
	case n < 7 && len(m.names(api.VarNode, api.VarRel)) > 0:
		return m.one(api.VarNode, api.VarRel) + ".k"
	case n < 8:
		return m.param()
	case n < 9:
		return "coalesce(" + m.one(api.VarNode) + ".k, " + m.number(deep-1) + ")"
	case n < 10:
		return "CASE WHEN " + m.condition(deep-1) + " THEN " + m.number(deep-1) + " END"
	case n < 11:
		return pick(m.chance, "size([1, 2])", "id("+m.one(api.VarNode, api.VarRel)+")", "-("+m.number(deep-1)+")")
	}
	return "(" + m.number(deep-1) + pick(m.chance, " + ", " + ", " - ", " * ", " / ", " % ") + m.number(deep-1) + ")"
}

func (m *maker) condition(deep int) string {
	switch n := m.IntN(8); {
	case deep == 0 || n < 4:
		return m.number(deep) + pick(m.chance, " = ", " <> ", " < ", " >= ") + m.number(deep)
	case n < 5:
		return m.one(api.VarNode) + ":" + pick(m.chance, "A", "B")
	case n < 6:
		return m.number(deep-1) + pick(m.chance, " IS NULL", " IS NOT NULL", " IN [1, 2]")
	case n < 7:
		return "NOT (" + m.condition(deep-1) + ")"
	}
	return "(" + m.condition(deep-1) + pick(m.chance, " AND ", " OR ", " XOR ") + m.condition(deep-1) + ")"
}

func (m *maker) labels() string { return pick(m.chance, "", "", "", "", "", "", ":A", ":B", ":A:B") }

func (m *maker) props() string {
	if m.IntN(9) > 0 {
		return ""
	}
	return " {k: " + m.number(1) + "}"
}

func (m *maker) path(create bool) string {
	s := m.node(create)
	for range pick(m.chance, 0, 0, 0, 1, 1, 2) {
		left, right := "-", pick(m.chance, "->", "-")
		if create {
			right = "->"
		}
		if m.IntN(3) == 0 {
			left, right = "<-", "-"
		}
		name := pick(m.chance, "", m.new("r"))
		kind := pick(m.chance, ":T", ":U", ":T|U", "", "", "")
		if create {
			kind = pick(m.chance, ":T", ":U")
		}
		s += left + "[" + name + kind + m.props() + "]" + right + m.node(create)
	}
	return s
}

func (m *maker) node(create bool) string {
	if l := m.names(api.VarNode); len(l) > 0 && m.IntN(3) == 0 {
		if create {
			return "(" + pick(m.chance, l...) + ")"
		}
		return "(" + pick(m.chance, l...) + m.labels() + ")"
	}
	return "(" + pick(m.chance, "", m.new("n"), m.new("n")) + m.labels() + m.props() + ")"
}

func (m *maker) paths(create bool) string {
	s := m.path(create)
	if m.IntN(4) == 0 {
		s += ", " + m.path(create)
	}
	return s
}

// told is what WITH and RETURN have both.
func (m *maker) told(with bool) string {
	var items, names []string
	item := func(e, name string) {
		items, names = append(items, e+" AS "+name), append(names, name)
	}
	for _, v := range m.vars {
		if m.IntN(4) > 0 {
			items, names = append(items, v.Name), append(names, v.Name)
		}
	}
	for m.IntN(3) == 0 {
		item(m.number(2), m.new("x"))
	}
	if m.IntN(4) == 0 {
		item(pick(m.chance, "count(*)", "count("+m.number(1)+")", "collect(DISTINCT "+m.number(1)+")", "sum("+m.number(1)+")", "min("+m.number(1)+")", "max("+m.one(api.VarAny, api.VarNode)+")"), m.new("x"))
	}
	if len(items) == 0 {
		item(m.number(1), m.new("x"))
	}
	s := pick(m.chance, "", "", "DISTINCT ") + strings.Join(items, ", ")
	if m.IntN(4) == 0 {
		s += " ORDER BY " + pick(m.chance, names...) + pick(m.chance, "", " DESC") + pick(m.chance, "", ", "+pick(m.chance, names...))
	}
	if m.IntN(8) == 0 {
		s += " SKIP " + pick(m.chance, "1", m.param())
	}
	if m.IntN(6) == 0 {
		s += " LIMIT " + pick(m.chance, "2", m.param())
	}
	if with && m.IntN(4) == 0 {
		s += " WHERE " + pick(m.chance, names...) + pick(m.chance, " IS NOT NULL", " <> 1", " > "+m.param())
	}
	return s
}

func (m *maker) clause(last bool) string {
	if last && m.IntN(3) > 0 {
		return "RETURN " + m.told(false)
	}
	n := m.IntN(11)
	if len(m.vars) == 0 && !last {
		n = m.IntN(5)
	}
	if last {
		n = 6 + m.IntN(5)
	}
	switch {
	case n < 3 && m.IntN(4) == 0:
		return pick(m.chance, "", "OPTIONAL ") + "MATCH " + m.paths(false) + " WHERE " + m.condition(2)
	case n < 3:
		return pick(m.chance, "", "", "OPTIONAL ") + "MATCH " + m.paths(false)
	case n < 4:
		return "UNWIND " + pick(m.chance, "[2, 1]", "[1, null, 1]", "$l", "range(1, 2)", "[0, "+m.number(1)+"]", m.number(1)) + " AS " + m.new("x")
	case n < 6:
		return "WITH " + m.told(true)
	case n < 8:
		return "CREATE " + m.paths(true)
	case n < 9:
		return "SET " + m.one(api.VarNode, api.VarRel) + ".k = " + pick(m.chance, m.number(2), m.number(1), "null")
	case n < 10:
		return pick(m.chance, "SET ", "REMOVE ") + m.one(api.VarNode) + ":" + pick(m.chance, "A", "B")
	}
	return pick(m.chance, "", "DETACH ") + "DELETE " + m.one(api.VarNode, api.VarRel)
}

// text is a query's text; it means something.
func (c chance) text(t *testing.T) string {
	t.Helper()
	m := &maker{chance: c, params: c.IntN(2) == 0}
	var l []string
	most := pick(c, 1, 2, 2, 3, 3, 4, 5, 6)
	for tries := 0; len(l) < most; tries++ {
		if tries > 1000 {
			t.Fatal("no clause goes")
		}
		s := m.clause(len(l) == most-1)
		q, _, no := syntax.Parse(s)
		if no != api.OK {
			continue // a null where a variable must be
		}
		vars, no := sema.Clause(q.Clauses[0], m.vars...)
		if no == api.OK && (m.params || !strings.Contains(s, "$")) {
			l, m.vars = append(l, s), vars
		}
	}
	return strings.Join(l, " ")
}
