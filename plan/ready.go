package plan

import (
	"slices"

	"lattice/api"
	"lattice/expr"
	"lattice/graph"
	"lattice/match"
	"lattice/sema"
)

// seats are the parts of a path.
type seats struct{ nodes, rels []seat }

// maker makes a search ready, as far as that does not hang on a way.
type maker struct {
	*search
	clause api.Clause
	place  api.Place
	at     map[string]int // where Vars stand in the row
	next   int            // where the next part without a Var stands
	paths  []seats
	conds  []api.Expr
}

// ready makes a search of a plan that may be. It gives up with Props that go wrong.
func ready(g *graph.Graph, p api.Place, c api.Clause, steps []api.Step) *search {
	names := slices.Concat(p.Columns, match.Vars(p.Columns, c))
	s := &search{graph: g, node: once(g.Node), rel: once(g.Rel), optional: c.Optional, old: len(p.Columns), all: len(names), taken: map[int64]struct{}{}}
	m := maker{search: s, clause: c, place: p, at: places(names), next: len(names), conds: sema.Parts(c.Where)}
	for _, path := range c.Paths {
		m.seat(path)
	}
	s.row = make([]api.Value, m.next)
	copy(s.row, p.Row)
	m.bindColumns()
	met := make([]bool, m.next)
	for i := range s.old {
		met[i] = true
	}
	for _, st := range steps {
		s.turns = append(s.turns, m.turn(st, met))
	}
	return s
}

// places tells where names stand; of several that are the same the first one counts.
func places(names []string) map[string]int {
	at := make(map[string]int, len(names))
	for i, name := range names {
		if _, there := at[name]; !there {
			at[name] = i
		}
	}
	return at
}

// once asks a graph for each element only once: what it tells are copies, and many ways lead over one element.
func once[T any](ask func(int64) (T, bool)) func(int64) *T {
	asked := map[int64]*T{}
	return func(id int64) *T {
		x, is := asked[id]
		if !is {
			if told, there := ask(id); there {
				x = &told
			}
			asked[id] = x
		}
		return x
	}
}

// seat gives the parts of a path their places.
func (m *maker) seat(p api.Path) {
	var x seats
	for _, n := range p.Nodes {
		x.nodes = append(x.nodes, m.part(n.Var, n.Labels, n.Has, n.Props))
	}
	for _, r := range p.Rels {
		x.rels = append(x.rels, m.part(r.Var, r.Types, r.Has, r.Props))
	}
	m.paths = append(m.paths, x)
}

func (m *maker) part(name string, tags []string, has bool, props api.Expr) seat {
	at := m.next
	if name != "" {
		at = m.at[name]
	} else {
		m.next++
	}
	want, no := expr.Props(m.graph, m.place, has, props)
	must(no)
	return seat{at, tags, want}
}

// must gives up with what goes wrong, whatever it is.
func must(no api.Errno) {
	if no != api.OK {
		panic(api.ErrWrong)
	}
}

// bindColumns asks the parts that have a column's value ahead of all steps: if one may not have it, no way is one, in whatever order.
func (m *maker) bindColumns() {
	for _, p := range m.paths {
		for _, n := range p.nodes {
			m.vain = m.vain || n.at < m.old && !m.bound(n)
		}
	}
}

// turn makes a step ready; met are the places in the row that are filled when it is come to.
func (m *maker) turn(s api.Step, met []bool) turn {
	t := turn{kind: s.Kind}
	switch s.Kind {
	case api.StepWhere:
		t.asked = m.asking(m.conds[s.Cond])
	case api.StepRel:
		p := m.paths[s.Path]
		near, far := ends(s)
		t.seat, t.near, t.far = p.rels[s.Part], p.nodes[near], p.nodes[far]
		t.dir = m.clause.Paths[s.Path].Rels[s.Part].Dir
		if s.Back {
			t.dir = -t.dir
		}
		t.met = met[t.far.at]
		met[t.far.at] = true
	default:
		t.seat = m.paths[s.Path].nodes[s.Part]
		t.among = m.among(s, t.seat)
		met[t.seat.at] = true
		m.vain = m.vain || s.Kind != api.StepBound && len(t.among) == 0
	}
	return t
}

// among are the nodes that a step gives. What StepSeek asks for, and more, the part asks for anyway.
func (m *maker) among(s api.Step, n seat) []int64 {
	var l []int64
	switch s.Kind {
	case api.StepAll:
		l = slices.Collect(m.graph.Nodes())
	case api.StepLabel, api.StepSeek:
		l = m.graph.Labelled(s.Label)
	}
	return slices.DeleteFunc(l, func(id int64) bool { return !m.fits(n, id) })
}
