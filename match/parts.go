package match

import (
	"iter"

	"lattice/api"
	"lattice/graph"
	"lattice/sema"
	"lattice/value"
)

// part is a node or a relationship of a path.
type part struct {
	rel, first bool // first: a path begins with it
	name       string
	tags       []string // a node's Labels, a relationship's Types
	dir        int
	has        bool
	props      api.Expr
}

func (p part) kind() api.VarKind {
	if p.rel {
		return api.VarRel
	}
	return api.VarNode
}

// parts goes over a clause's parts, path by path, from the left; over those that are there, where layer 4 refuses a path.
func parts(c api.Clause) iter.Seq[part] {
	return func(yield func(part) bool) {
		for _, path := range c.Paths {
			for i := range max(len(path.Nodes), len(path.Rels)) {
				if i < len(path.Nodes) && !yield(nodePart(path.Nodes[i], i == 0)) {
					return
				}
				if i < len(path.Rels) && !yield(relPart(path.Rels[i])) {
					return
				}
			}
		}
	}
}

func nodePart(n api.NodePat, first bool) part {
	return part{first: first, name: n.Var, tags: n.Labels, has: n.Has, props: n.Props}
}

func relPart(r api.RelPat) part {
	return part{rel: true, name: r.Var, tags: r.Types, dir: r.Dir, has: r.Has, props: r.Props}
}

// places tells where columns stand; of several of one name the first one counts.
func places(columns []string) map[string]int {
	at := make(map[string]int, len(columns))
	for i, name := range columns {
		if _, there := at[name]; !there {
			at[name] = i
		}
	}
	return at
}

// asked gives up with what may not be handed in; else it tells the variables behind the clause.
func asked(g *graph.Graph, p api.Place, c api.Clause) []api.Var {
	if !g.There() {
		panic(api.ErrNil)
	}
	if c.Kind != api.ClauseMatch || !mayBe(p) {
		panic(api.ErrArg)
	}
	vars, no := sema.Clause(c, kinds(p, c)...)
	if no != api.OK {
		panic(api.ErrArg)
	}
	there := map[string]struct{}{}
	for _, x := range p.Params {
		there[x.Name] = struct{}{}
	}
	params(c, func(name string) {
		if _, ok := there[name]; !ok {
			panic(api.ErrArg)
		}
	})
	return vars
}

// mayBe tells whether a place has a value for each column, and all its values may be. Layer 7 asks it too, but only where there are Props or a Where: what is answered must not hang on these.
func mayBe(p api.Place) bool {
	for _, v := range p.Row {
		if value.Check(v) != api.OK {
			return false
		}
	}
	for _, x := range p.Params {
		if value.Check(x.Value) != api.OK {
			return false
		}
	}
	return len(p.Row) == len(p.Columns)
}

// kinds are the columns, with the kinds that they are taken to be.
func kinds(p api.Place, c api.Clause) []api.Var {
	first := map[string]api.VarKind{}
	for x := range parts(c) {
		if _, there := first[x.name]; x.name != "" && !there {
			first[x.name] = x.kind()
		}
	}
	l := make([]api.Var, len(p.Columns))
	for i, name := range p.Columns {
		l[i] = api.Var{Name: name, Kind: kindOf(p.Row[i], first[name])}
	}
	return l
}

// kindOf is what a value is taken to be; nothing is what the clause takes it for.
func kindOf(v api.Value, taken api.VarKind) api.VarKind {
	switch v.Kind {
	case api.ValueNode:
		return api.VarNode
	case api.ValueRel:
		return api.VarRel
	case api.ValueNull:
		return taken
	}
	return api.VarAny
}

// params tells the names of a clause's parameters, as often as they stand there.
func params(c api.Clause, tell func(string)) {
	var within func(api.Expr)
	within = func(e api.Expr) {
		if e.Kind == api.ExprParam {
			tell(e.Name)
		}
		for _, k := range e.Kids {
			within(k)
		}
	}
	for p := range parts(c) {
		within(p.props)
	}
	within(c.Where)
}
