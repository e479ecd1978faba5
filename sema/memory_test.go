package sema_test

import (
	"slices"
	"testing"

	"lattice/api"
	"lattice/sema"
	"lattice/syntax"
)

// P6.1: what is answered is new memory, and what is handed in is not changed, the room behind it included.

func TestShapesAreNewMemory(t *testing.T) {
	q := query(t, "MATCH (a)-[r]->(b) SET a.k = 1 SET b.k = 2 CREATE (a)-[s:T]->(b) CREATE (c) WITH a, r AS b, c UNWIND [a] AS x DELETE b RETURN a, b, x")
	before := syntax.CopyQuery(q)
	want, _, _ := sema.Check(q)
	for i := range want.Behind {
		shape, _, e := sema.Check(q)
		if e != api.OK || !sameShape(shape, want) {
			t.Fatal(shape, e)
		}
		shape.Behind[i][0] = api.Var{Name: "other", Kind: 7}
		shape.Behind[i] = append(shape.Behind[i][:1], make([]api.Var, cap(shape.Behind[i])-1)...)
		for k := range want.Behind {
			if k != i && !slices.Equal(shape.Behind[k], want.Behind[k]) {
				t.Errorf("%d changes %d", i, k)
			}
		}
	}
	shape, _, _ := sema.Check(q)
	shape.Columns[0] = "other"
	if again, _, _ := sema.Check(q); !sameShape(again, want) || !syntax.Same(q, before) {
		t.Error(again)
	}
}

func TestClausesAreNewMemory(t *testing.T) {
	for _, s := range []string{"MATCH (c)-[s]-()", "UNWIND [1] AS y", "WITH a, x", "RETURN a", "CREATE (c)", "SET a.k = x", "REMOVE a.k", "DELETE a", "MATCH (a)"} {
		room := append(vars("n-a r-r x"), vars("spare spare spare")...)
		before := slices.Clone(room)
		c := clauseOf(t, s)
		l, e := sema.Clause(c, room[:3]...)
		if e != api.OK {
			t.Fatal(s, e)
		}
		want := slices.Clone(l)
		if !slices.Equal(room, before) {
			t.Errorf("%s: %v", s, room)
		}
		for i := range l {
			l[i].Name = "other"
		}
		if !slices.Equal(room, before) {
			t.Errorf("%s: %v shares memory", s, room)
		}
		if again, _ := sema.Clause(c, room[:3]...); !slices.Equal(again, want) {
			t.Errorf("%s: %v", s, again)
		}
	}
}

// What is asked of an expression changes neither it nor the variables.
func TestNothingIsChanged(t *testing.T) {
	room := append(vars("n-n x"), vars("spare spare")...)
	before := slices.Clone(room)
	kids := slices.Repeat([]api.Expr{number(1)}, api.MaxItems+5)
	e := joined("AND", joined("IN", variable("x"), list(kids...)), expr(t, "n.k = 1 AND abs(x) = {k: n}.k"))
	want := syntax.Copy(e)
	sema.Used(e, room[:2]...)
	sema.Uses(e)
	sema.Aggregate(e)
	sema.Safe(e, room[:2]...)
	sema.Truth(e, room[:2]...)
	sema.Parts(e)
	sema.Leading(e, room[:2]...)
	if !syntax.SameExpr(e, want) || !slices.Equal(room, before) {
		t.Error("changed", room)
	}
}

// Lists that are not there and empty ones mean the same.
func TestEmptyLists(t *testing.T) {
	e := api.Expr{Kind: api.ExprLiteral, Keys: []string{}, Kids: []api.Expr{}, Value: api.Value{Keys: []string{}, List: []api.Value{}}}
	if sema.Used(e, []api.Var{}...) != api.OK || !sema.Truth(e) || !sema.Safe(e) || len(sema.Uses(e)) != 0 || sema.Leading(e) != 1 || !sema.Truth(joined("IN", e, api.Expr{Kind: api.ExprList, Kids: []api.Expr{}})) {
		t.Error(e)
	}
	c := clauseOf(t, "CREATE (a), (a)")
	c.Items, c.Order, c.Sets, c.Vars = []api.Item{}, []api.SortKey{}, []api.SetItem{}, []string{}
	c.Where, c.Skip = e, e
	c.Paths[1].Nodes[0].Labels, c.Paths[1].Rels = []string{}, []api.RelPat{}
	if l, no := sema.Clause(c); no != api.OK || !slices.Equal(l, vars("n-a")) {
		t.Error(l, no)
	}
}
