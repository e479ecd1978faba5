package sema_test

import (
	"math/rand/v2"
	"slices"
	"testing"

	"lattice/api"
	"lattice/sema"
	"lattice/syntax"
)

// P6.1, P6.2, P6.5: queries that come of chance, held against another way of asking them: all that is asked is written down in order, then the first thing that is not so is sought.

// asks are the answers to all that is asked, in order: OK, or the error of what is not so.
type asks []api.Errno

func (a *asks) need(so bool, e api.Errno) {
	if so {
		e = api.OK
	}
	*a = append(*a, e)
}

func (a asks) first() api.Errno {
	i := slices.IndexFunc(a, func(e api.Errno) bool { return e != api.OK })
	if i < 0 {
		return api.OK
	}
	return a[i]
}

func find(l []api.Var, name string) (api.VarKind, bool) {
	i := slices.IndexFunc(l, func(v api.Var) bool { return v.Name == name })
	if i < 0 {
		return 0, false
	}
	return l[i].Kind, true
}

func aggregate(e api.Expr) bool {
	called := e.Kind == api.ExprCall && slices.Contains([]string{"count", "sum", "min", "max", "collect"}, e.Name)
	return e.Kind == api.ExprCount || called
}

func (a *asks) expr(e api.Expr, l []api.Var) {
	switch e.Kind {
	case api.ExprVar:
		_, there := find(l, e.Name)
		a.need(there, api.ErrVar)
	case api.ExprCount:
		a.need(false, api.ErrAggregate)
	case api.ExprCall:
		n := len(e.Kids)
		a.need(!aggregate(e), api.ErrAggregate)
		switch e.Name {
		case "id", "labels", "type", "size", "head", "last", "abs", "keys", "toString":
			a.need(n == 1, api.ErrFunction)
		case "range":
			a.need(n == 2 || n == 3, api.ErrFunction)
		case "coalesce":
			a.need(n != 0, api.ErrFunction)
		default:
			a.need(false, api.ErrFunction)
		}
		a.need(!e.Distinct, api.ErrFunction)
	}
	for _, k := range e.Kids {
		a.expr(k, l)
	}
}

// clause asks a clause, and tells what stands behind it, if all is so.
func (a *asks) clause(c api.Clause, ahead []api.Var) []api.Var {
	now := slices.Clone(ahead)
	for _, p := range c.Paths {
		for i := range p.Nodes {
			if i > 0 {
				now = a.rel(c.Kind, p.Rels[i-1], ahead, now)
			}
			now = a.node(c.Kind, p.Nodes[i], ahead, now)
		}
	}
	if c.Kind == api.ClauseUnwind {
		a.expr(c.Expr, ahead)
		_, there := find(now, c.As)
		a.need(!there, api.ErrAgain)
		now = append(now, api.Var{Name: c.As})
	}
	if len(c.Items) > 0 {
		now = a.items(c, ahead)
	}
	for _, s := range c.Sets {
		kind, there := find(ahead, s.Var)
		a.need(there, api.ErrVar)
		a.need(kind == api.VarNode || kind == api.VarRel && s.Kind == api.SetProp, api.ErrKind)
		if c.Kind == api.ClauseSet && s.Kind == api.SetProp {
			a.expr(s.Value, ahead)
		}
	}
	for _, v := range c.Vars {
		kind, there := find(ahead, v)
		a.need(there, api.ErrVar)
		a.need(kind != api.VarAny, api.ErrKind)
	}
	if c.HasWhere {
		a.expr(c.Where, now)
	}
	return now
}

func (a *asks) node(k api.ClauseKind, n api.NodePat, ahead, now []api.Var) []api.Var {
	if kind, there := find(now, n.Var); n.Var != "" && there {
		a.need(kind == api.VarNode, api.ErrKind)
		a.need(k == api.ClauseMatch || len(n.Labels) == 0 && !n.Has, api.ErrPattern)
	} else if n.Var != "" {
		now = append(now, api.Var{Name: n.Var, Kind: api.VarNode})
	}
	if n.Has {
		a.expr(n.Props, ahead)
	}
	return now
}

func (a *asks) rel(k api.ClauseKind, r api.RelPat, ahead, now []api.Var) []api.Var {
	a.need(k == api.ClauseMatch || len(r.Types) == 1, api.ErrPattern)
	a.need(k == api.ClauseMatch || r.Dir != 0, api.ErrPattern)
	if r.Var != "" {
		_, there := find(now, r.Var)
		a.need(!there, api.ErrAgain)
		now = append(now, api.Var{Name: r.Var, Kind: api.VarRel})
	}
	if r.Has {
		a.expr(r.Props, ahead)
	}
	return now
}

func (a *asks) items(c api.Clause, ahead []api.Var) []api.Var {
	var now []api.Var
	for _, i := range c.Items {
		if aggregate(i.Expr) {
			a.need(i.Expr.Kind == api.ExprCount || len(i.Expr.Kids) == 1, api.ErrFunction)
			for _, k := range i.Expr.Kids {
				a.expr(k, ahead)
			}
		} else {
			a.expr(i.Expr, ahead)
		}
		v := api.Var{Name: i.As}
		if i.As == "" {
			v.Name = syntax.Text(i.Expr)
			a.need(c.Kind == api.ClauseReturn || i.Expr.Kind == api.ExprVar, api.ErrName)
		}
		if i.Expr.Kind == api.ExprVar {
			v.Kind, _ = find(ahead, i.Expr.Name)
		}
		_, again := find(now, v.Name)
		a.need(!again, api.ErrAgain)
		now = append(now, v)
	}
	for _, k := range c.Order {
		a.expr(k.Expr, now)
	}
	if c.HasSkip {
		a.expr(c.Skip, nil)
	}
	if c.HasLimit {
		a.expr(c.Limit, nil)
	}
	return now
}

// maker makes queries that may be, most of whose variables are there.
type maker struct {
	*rand.Rand
	have []api.Var
}

func (m *maker) pick(l ...string) string { return l[m.IntN(len(l))] }

func (m *maker) one(n int) bool { return m.IntN(n) == 0 }

// variable is mostly one of the kind that is asked for, or of any for a kind of -1; now and then any name.
func (m *maker) variable(kind api.VarKind) string {
	var l []string
	for _, v := range m.have {
		if (kind < 0 || v.Kind == kind) && v.Name != "" && len(v.Name) <= api.MaxName {
			l = append(l, v.Name)
		}
	}
	if len(l) == 0 || m.one(12) {
		return m.fresh()
	}
	return m.pick(l...)
}

func (m *maker) fresh() string {
	return m.pick("a", "b", "c", "d", "e", "f", "r", "s", "t", "x", "y", "z", "a b")
}

func (m *maker) kids(deep, n int) []api.Expr {
	var l []api.Expr
	for range n {
		l = append(l, m.expr(deep))
	}
	return l
}

func (m *maker) expr(deep int) api.Expr {
	if deep <= 0 || m.one(3) {
		switch m.IntN(5) {
		case 0:
			return number(int64(m.IntN(3)))
		case 1:
			return api.Expr{Kind: api.ExprParam, Name: m.fresh()}
		case 2:
			return text(m.pick("", "a", "it's"))
		}
		return variable(m.variable(-1))
	}
	deep--
	switch k := api.ExprKind(3 + m.IntN(13)); k {
	case api.ExprProp, api.ExprLabel:
		return api.Expr{Kind: k, Name: m.pick("k", "L"), Kids: m.kids(deep, 1)}
	case api.ExprIndex:
		return api.Expr{Kind: k, Kids: m.kids(deep, 2)}
	case api.ExprList:
		return api.Expr{Kind: k, Kids: m.kids(deep, m.IntN(4))}
	case api.ExprMap:
		keys := []string{"k", "l", "m"}[:m.IntN(4)]
		return api.Expr{Kind: k, Keys: keys, Kids: m.kids(deep, len(keys))}
	case api.ExprCall:
		return m.call(deep)
	case api.ExprBin:
		return api.Expr{Kind: k, Name: m.pick("OR", "XOR", "AND", "=", "<", "IN", "STARTS", "+", "%"), Kids: m.kids(deep, 2)}
	case api.ExprCase:
		return api.Expr{Kind: k, Kids: m.kids(deep, 3+2*m.IntN(2))}
	case api.ExprCount:
		if m.one(4) {
			return api.Expr{Kind: k}
		}
		return variable(m.variable(-1))
	default:
		return api.Expr{Kind: k, Kids: m.kids(deep, 1)}
	}
}

func (m *maker) call(deep int) api.Expr {
	n := 1
	name := m.pick("id", "labels", "type", "size", "head", "last", "abs", "keys", "toString", "coalesce", "range")
	switch {
	case name == "range":
		n = 2 + m.IntN(2)
	case name == "coalesce":
		n = 1 + m.IntN(3)
	case m.one(8):
		name = m.pick("count", "sum", "min", "max", "collect", "nope", "Abs")
	}
	if m.one(16) || name == "count" && m.one(2) {
		n = m.IntN(5)
	}
	return api.Expr{Kind: api.ExprCall, Name: name, Kids: m.kids(deep, n), Distinct: n > 0 && m.one(24)}
}

// simple is an expression with few variables, so that most of what has many of them goes well.
func (m *maker) simple() api.Expr { return m.expr(m.IntN(3)) }

func (m *maker) props() (bool, api.Expr) {
	if !m.one(3) {
		return false, api.Expr{}
	}
	return true, api.Expr{Kind: api.ExprMap, Keys: []string{"k"}, Kids: m.kids(1, 1)}
}

func (m *maker) paths(kind api.ClauseKind) []api.Path {
	var l []api.Path
	for range 1 + m.IntN(3) {
		p := api.Path{Nodes: []api.NodePat{m.node(kind)}}
		for range m.IntN(3) {
			p.Rels = append(p.Rels, m.rel(kind))
			p.Nodes = append(p.Nodes, m.node(kind))
		}
		l = append(l, p)
	}
	return l
}

func (m *maker) node(kind api.ClauseKind) api.NodePat {
	var n api.NodePat
	switch m.IntN(4) {
	case 0:
		n.Var = m.variable(api.VarNode)
		if kind == api.ClauseCreate && !m.one(6) {
			return n
		}
	case 1:
		n.Var = m.fresh()
	}
	if m.one(3) {
		n.Labels = []string{"L"}
	}
	n.Has, n.Props = m.props()
	return n
}

func (m *maker) rel(kind api.ClauseKind) api.RelPat {
	r := api.RelPat{Types: []string{"T"}, Dir: 2*m.IntN(2) - 1}
	if m.one(3) {
		r.Var = m.fresh()
	}
	if kind == api.ClauseMatch || m.one(8) {
		r.Types, r.Dir = []string{"T", "U"}[:m.IntN(3)], m.IntN(3)-1
	}
	r.Has, r.Props = m.props()
	return r
}

func (m *maker) clause() api.Clause {
	c := api.Clause{Kind: api.ClauseKind(m.IntN(8))}
	switch c.Kind {
	case api.ClauseMatch, api.ClauseCreate:
		c.Paths = m.paths(c.Kind)
	case api.ClauseUnwind:
		c.Expr, c.As = m.simple(), m.fresh()
	case api.ClauseWith, api.ClauseReturn:
		m.items(&c)
	case api.ClauseSet, api.ClauseRemove:
		for range 1 + m.IntN(3) {
			s := api.SetItem{Kind: api.SetKind(m.IntN(2)), Key: "k", Var: m.variable(api.VarKind(m.IntN(3)))}
			if c.Kind == api.ClauseSet && s.Kind == api.SetProp {
				s.Value = m.simple()
			}
			c.Sets = append(c.Sets, s)
		}
	case api.ClauseDelete:
		for range 1 + m.IntN(3) {
			c.Vars = append(c.Vars, m.variable(api.VarKind(m.IntN(3))))
		}
	}
	if (c.Kind == api.ClauseMatch || c.Kind == api.ClauseWith) && m.one(2) {
		c.HasWhere, c.Where = true, m.simple()
	}
	return c
}

// aggregate is an aggregate's call, now and then not of one Kid.
func (m *maker) aggregate() api.Expr {
	n := 1
	if m.one(16) {
		n = m.IntN(4)
	}
	return api.Expr{Kind: api.ExprCall, Name: m.pick("count", "sum", "collect"), Kids: m.kids(1, n), Distinct: n > 0 && m.one(2)}
}

func (m *maker) items(c *api.Clause) {
	for range 1 + m.IntN(4) {
		i := api.Item{Expr: variable(m.variable(-1))}
		switch m.IntN(4) {
		case 0:
			i.Expr = m.simple()
		case 1:
			i.Expr = m.aggregate()
		}
		if i.Expr.Kind != api.ExprVar && !m.one(8) || m.one(3) {
			i.As = m.fresh()
		}
		c.Items = append(c.Items, i)
	}
	for range m.IntN(3) {
		c.Order = append(c.Order, api.SortKey{Expr: m.simple()})
	}
	if m.one(3) {
		c.HasSkip, c.Skip = true, m.simple()
	}
	if m.one(3) {
		c.HasLimit, c.Limit = true, m.simple()
	}
}

// query makes clauses most of which are right where they stand, and tells what is to be answered.
func (m *maker) query(t *testing.T) (api.Query, api.Shape, int, api.Errno) {
	var q api.Query
	var shape api.Shape
	m.have = nil
	most := 1 + m.IntN(8)
	for i := 0; i < most; {
		c := m.clause()
		var a asks
		behind := a.clause(c, m.have)
		a.need(c.Kind != api.ClauseReturn || i == most-1, api.ErrOrder)
		a.need(i != most-1 || c.Kind != api.ClauseMatch && c.Kind != api.ClauseUnwind && c.Kind != api.ClauseWith, api.ErrOrder)
		if a.first() != api.OK && !m.one(20) {
			continue
		}
		i++
		q.Clauses = append(q.Clauses, c)
		if e := a.first(); e != api.OK {
			for i < most && len(q.Clauses) < most {
				q.Clauses = append(q.Clauses, m.clause())
			}
			return q, api.Shape{}, i - 1, e
		}
		m.have = behind
		shape.Behind = append(shape.Behind, behind)
		shape.Writes = shape.Writes || slices.Contains([]api.ClauseKind{api.ClauseCreate, api.ClauseSet, api.ClauseRemove, api.ClauseDelete}, c.Kind)
		if c.Kind == api.ClauseReturn {
			for _, v := range behind {
				shape.Columns = append(shape.Columns, v.Name)
			}
		}
	}
	if syntax.Check(q) != api.OK {
		t.Fatal(q)
	}
	return q, shape, 0, api.OK
}

func TestQueriesOfChance(t *testing.T) {
	m := &maker{Rand: rand.New(rand.NewPCG(6, 1))}
	seen := map[api.Errno]int{}
	for range 20000 {
		q, want, at, e := m.query(t)
		shape, n, no := sema.Check(q)
		if n != at || no != e || !sameShape(shape, want) {
			s, _ := syntax.Print(q)
			t.Fatalf("%s: %v in %d, %v, not %v in %d, %v", s, no, n, shape, e, at, want)
		}
		seen[e]++
	}
	for _, e := range []api.Errno{api.OK, api.ErrVar, api.ErrFunction, api.ErrAggregate, api.ErrKind, api.ErrAgain, api.ErrOrder, api.ErrName, api.ErrPattern} {
		if seen[e] < 50 {
			t.Errorf("%v: %d", e, seen[e])
		}
	}
}

// One clause after the other, told by Clause, is what Check tells of them all.
func TestClausesOfChance(t *testing.T) {
	m := &maker{Rand: rand.New(rand.NewPCG(6, 2))}
	kinds := map[api.ClauseKind]map[api.Errno]int{}
	for n := range 60000 {
		m.have = vars(m.pick("", "x", "n-a n-b r-r x", "n-a n-b r-r x y", "r-s r-r n-c n-a_b z", "n-x r-a b", "n-a a r-a"))
		c := m.clause()
		var a asks
		want := a.clause(c, m.have)
		if a.first() != api.OK {
			want = nil
		}
		l, e := sema.Clause(c, m.have...)
		if e != a.first() || !slices.Equal(l, want) {
			s, _ := syntax.Print(api.Query{Clauses: []api.Clause{c}})
			t.Fatalf("%d: %s with %v: %v %v, not %v %v", n, s, m.have, l, e, want, a.first())
		}
		if kinds[c.Kind] == nil {
			kinds[c.Kind] = map[api.Errno]int{}
		}
		kinds[c.Kind][e]++
	}
	for k, l := range [][]api.Errno{
		api.ClauseMatch:  {api.OK, api.ErrVar, api.ErrFunction, api.ErrAggregate, api.ErrKind, api.ErrAgain},
		api.ClauseUnwind: {api.OK, api.ErrVar, api.ErrFunction, api.ErrAggregate, api.ErrAgain},
		api.ClauseWith:   {api.OK, api.ErrVar, api.ErrFunction, api.ErrAggregate, api.ErrAgain, api.ErrName},
		api.ClauseCreate: {api.OK, api.ErrVar, api.ErrFunction, api.ErrAggregate, api.ErrKind, api.ErrAgain, api.ErrPattern},
		api.ClauseSet:    {api.OK, api.ErrVar, api.ErrFunction, api.ErrAggregate, api.ErrKind},
		api.ClauseRemove: {api.OK, api.ErrVar, api.ErrKind},
		api.ClauseDelete: {api.OK, api.ErrVar, api.ErrKind},
		api.ClauseReturn: {api.OK, api.ErrVar, api.ErrFunction, api.ErrAggregate, api.ErrAgain},
	} {
		for _, e := range l {
			if kinds[api.ClauseKind(k)][e] < 10 {
				t.Errorf("%d: %v: %d", k, e, kinds[api.ClauseKind(k)][e])
			}
		}
		if len(kinds[api.ClauseKind(k)]) != len(l) {
			t.Errorf("%d: %v", k, kinds[api.ClauseKind(k)])
		}
	}
}

func TestExpressionsOfChance(t *testing.T) {
	m := &maker{Rand: rand.New(rand.NewPCG(6, 5)), have: vars("n-a r-r x n-a_b")}
	safe := 0
	for range 40000 {
		e := m.expr(5)
		var a asks
		a.expr(e, m.have)
		if got := sema.Used(e, m.have...); got != a.first() {
			t.Fatalf("%s: %v, not %v", syntax.Text(e), got, a.first())
		}
		if sema.Aggregate(e) != aggregate(e) {
			t.Fatal(syntax.Text(e))
		}
		usesOf(t, e)
		if sema.Truth(e, m.have...) && !sema.Safe(e, m.have...) {
			t.Fatalf("%s is a Truth, but not safe", syntax.Text(e))
		}
		if sema.Safe(e, m.have...) {
			safe++
			if a.first() != api.OK {
				t.Fatalf("%s is safe, but not well used", syntax.Text(e))
			}
		}
		parts := sema.Parts(e)
		if !sameExprs(sema.Parts(andFromLeft(parts...)), parts) {
			t.Fatalf("%s has other parts", syntax.Text(e))
		}
	}
	if safe < 1000 {
		t.Error(safe)
	}
}

// usesOf holds Uses against Used: with just these variables none is missing; without one of them one is.
func usesOf(t *testing.T, e api.Expr) {
	t.Helper()
	l := sema.Uses(e)
	if !slices.IsSorted(l) || len(slices.Compact(slices.Clone(l))) != len(l) {
		t.Fatal(syntax.Text(e), l)
	}
	missing := func(names []string) bool {
		var have []api.Var
		for _, s := range names {
			have = append(have, api.Var{Name: s})
		}
		var a asks
		a.expr(e, have)
		return slices.Contains(a, api.ErrVar)
	}
	if missing(l) {
		t.Fatal(syntax.Text(e), l)
	}
	for i := range l {
		if !missing(slices.Delete(slices.Clone(l), i, i+1)) {
			t.Fatal(syntax.Text(e), l)
		}
	}
}
