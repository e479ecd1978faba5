package syntax

import (
	"slices"

	"lattice/api"
	"lattice/value"
)

// Same tells whether queries are the same in all fields, whether they may be or not.
func Same(a, b api.Query) bool {
	return slices.EqualFunc(a.Clauses, b.Clauses, sameClause)
}

// SameExpr tells whether expressions are the same in all fields, whether they may be or not.
func SameExpr(a, b api.Expr) bool {
	return a.Kind == b.Kind && a.Name == b.Name && a.Distinct == b.Distinct && sameValue(a.Value, b.Value) &&
		slices.Equal(a.Keys, b.Keys) && slices.EqualFunc(a.Kids, b.Kids, SameExpr)
}

// sameValue is not layer 1's Same, which is not so of values that may not be.
func sameValue(a, b api.Value) bool {
	return a.Kind == b.Kind && a.Bool == b.Bool && a.Int == b.Int && a.Text == b.Text &&
		slices.Equal(a.Keys, b.Keys) && slices.EqualFunc(a.List, b.List, sameValue)
}

func sameClause(a, b api.Clause) bool {
	return a.Kind == b.Kind && a.Optional == b.Optional && a.Distinct == b.Distinct && a.Detach == b.Detach &&
		a.HasWhere == b.HasWhere && a.HasSkip == b.HasSkip && a.HasLimit == b.HasLimit &&
		a.As == b.As && slices.Equal(a.Vars, b.Vars) &&
		SameExpr(a.Where, b.Where) && SameExpr(a.Skip, b.Skip) && SameExpr(a.Limit, b.Limit) && SameExpr(a.Expr, b.Expr) &&
		slices.EqualFunc(a.Paths, b.Paths, samePath) && slices.EqualFunc(a.Items, b.Items, sameItem) &&
		slices.EqualFunc(a.Order, b.Order, sameKey) && slices.EqualFunc(a.Sets, b.Sets, sameSet)
}

func samePath(a, b api.Path) bool {
	return slices.EqualFunc(a.Nodes, b.Nodes, sameNode) && slices.EqualFunc(a.Rels, b.Rels, sameRel)
}

func sameNode(a, b api.NodePat) bool {
	return a.Var == b.Var && slices.Equal(a.Labels, b.Labels) && a.Has == b.Has && SameExpr(a.Props, b.Props)
}

func sameRel(a, b api.RelPat) bool {
	return a.Var == b.Var && slices.Equal(a.Types, b.Types) && a.Dir == b.Dir && a.Has == b.Has && SameExpr(a.Props, b.Props)
}

func sameItem(a, b api.Item) bool { return a.As == b.As && SameExpr(a.Expr, b.Expr) }

func sameKey(a, b api.SortKey) bool { return a.Desc == b.Desc && SameExpr(a.Expr, b.Expr) }

func sameSet(a, b api.SetItem) bool {
	return a.Kind == b.Kind && a.Var == b.Var && a.Key == b.Key && SameExpr(a.Value, b.Value)
}

// Copy is the same expression in memory of its own, whether it may be or not.
func Copy(e api.Expr) api.Expr {
	e.Value = value.Copy(e.Value)
	e.Keys = slices.Clone(e.Keys)
	e.Kids = copies(e.Kids, Copy)
	return e
}

// CopyQuery is the same query in memory of its own, whether it may be or not.
func CopyQuery(q api.Query) api.Query {
	q.Clauses = copies(q.Clauses, copyClause)
	return q
}

// copies keeps no list apart from an empty one, so that a copy differs in nothing from what it is of.
func copies[T any](l []T, thing func(T) T) []T {
	if l == nil {
		return nil
	}
	out := make([]T, len(l))
	for i, x := range l {
		out[i] = thing(x)
	}
	return out
}

func copyClause(c api.Clause) api.Clause {
	c.Paths = copies(c.Paths, copyPath)
	c.Items = copies(c.Items, copyItem)
	c.Order = copies(c.Order, copyKey)
	c.Sets = copies(c.Sets, copySet)
	c.Where, c.Skip, c.Limit, c.Expr = Copy(c.Where), Copy(c.Skip), Copy(c.Limit), Copy(c.Expr)
	c.Vars = slices.Clone(c.Vars)
	return c
}

func copyPath(p api.Path) api.Path {
	p.Nodes = copies(p.Nodes, copyNode)
	p.Rels = copies(p.Rels, copyRel)
	return p
}

func copyNode(n api.NodePat) api.NodePat {
	n.Labels, n.Props = slices.Clone(n.Labels), Copy(n.Props)
	return n
}

func copyRel(r api.RelPat) api.RelPat {
	r.Types, r.Props = slices.Clone(r.Types), Copy(r.Props)
	return r
}

func copyItem(i api.Item) api.Item {
	i.Expr = Copy(i.Expr)
	return i
}

func copyKey(k api.SortKey) api.SortKey {
	k.Expr = Copy(k.Expr)
	return k
}

func copySet(s api.SetItem) api.SetItem {
	s.Value = Copy(s.Value)
	return s
}
