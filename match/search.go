package match

import (
	"iter"
	"slices"

	"lattice/api"
	"lattice/expr"
	"lattice/graph"
)

// search looks for the ways of a clause. Its Place has the new Vars behind the columns; what parts are given stands in its Row.
type search struct {
	api.Place
	graph *graph.Graph
	node  func(int64) (api.Node, bool)
	rel   func(int64) (api.Rel, bool)
	old   int // how many columns the row itself has
	steps []step
	taken map[int64]struct{} // the relationships that parts are given
	vain  bool               // some part fits no node at all
}

// step is a part, with what is known of it ahead of looking for ways.
type step struct {
	part
	at       int  // where its Var stands in the Row; -1 without one
	known    bool // its Var is a column, or that of a part ahead
	want     []api.Prop
	foretold bool // the nodes that it may be given do not hang on a way
	among    []int64
}

// begin makes ready all that does not hang on a way. It gives up with Props that go wrong.
func begin(g *graph.Graph, p api.Place, c api.Clause) *search {
	names := slices.Concat(p.Columns, Vars(p.Columns, c))
	s := &search{graph: g, node: once(g.Node), rel: once(g.Rel), old: len(p.Columns), taken: map[int64]struct{}{}}
	s.Place = api.Place{Columns: names, Row: make([]api.Value, len(names)), Params: p.Params}
	copy(s.Row, p.Row)
	at, known := places(names), s.old
	for x := range parts(c) {
		t := step{part: x, at: -1}
		if x.name != "" {
			t.at = at[x.name]
			t.known = t.at < known
			known = max(known, t.at+1)
		}
		t.want = props(g, p, x)
		s.steps = append(s.steps, t)
	}
	for i := range s.steps {
		s.foretell(&s.steps[i])
	}
	return s
}

// foretell finds the nodes of a part whose Var is a column, or that a path begins with, its Var a new one. A part that has none must be known ahead: else it would be found out for each way of the parts ahead of it.
func (s *search) foretell(t *step) {
	column := t.known && t.at < s.old
	t.foretold = column || t.first && !t.known
	switch {
	case !t.foretold:
		return
	case !column:
		t.among = slices.DeleteFunc(slices.Collect(s.graph.Nodes()), func(id int64) bool { return !s.nodeFits(t, id) })
	case s.Row[t.at].Kind == api.ValueNode && s.nodeFits(t, s.Row[t.at].Int):
		t.among = []int64{s.Row[t.at].Int}
	}
	s.vain = s.vain || len(t.among) == 0
}

// once asks for each number only once: what a graph tells are copies, and many ways lead over one element.
func once[T any](ask func(int64) (T, bool)) func(int64) (T, bool) {
	type answer struct {
		thing T
		there bool
	}
	told := map[int64]answer{}
	return func(id int64) (T, bool) {
		a, asked := told[id]
		if !asked {
			a.thing, a.there = ask(id)
			told[id] = a
		}
		return a.thing, a.there
	}
}

// props are what a part's Props are worth on the row.
func props(g *graph.Graph, p api.Place, x part) []api.Prop {
	l, no := expr.Props(g, p, x.has, x.props)
	if no != api.OK {
		panic(no)
	}
	return l
}

// each finds the ways, and calls tell for each, with the Row as it tells it.
func (s *search) each(tell func()) {
	if s.vain {
		return
	}
	var give func(n int, node int64)
	give = func(n int, node int64) {
		if n == len(s.steps) {
			tell()
			return
		}
		t := &s.steps[n]
		for id, next := range s.candidates(t, node) {
			s.put(t, id)
			give(n+1, next)
			if t.rel {
				delete(s.taken, id)
			}
		}
	}
	give(0, 0)
}

// put gives a part its element. What stands in the Row is not taken out again: where it is asked, it was put there on the same way.
func (s *search) put(t *step, id int64) {
	kind := api.ValueNode
	if t.rel {
		s.taken[id] = struct{}{}
		kind = api.ValueRel
	}
	if t.at >= 0 && !t.known {
		s.Row[t.at] = api.Value{Kind: kind, Int: id}
	}
}

// candidates goes over what a part may be given, where the part left of it stands at a node; each with the node at which the next part stands.
func (s *search) candidates(t *step, node int64) iter.Seq2[int64, int64] {
	return func(yield func(int64, int64) bool) {
		if !t.rel {
			for _, id := range s.nodes(t, node) {
				if !yield(id, id) {
					return
				}
			}
			return
		}
		for _, id := range s.graph.Rels(node, t.dir) {
			if far, fits := s.relFits(t, id, node); fits && !yield(id, far) {
				return
			}
		}
	}
}

// nodes are those that a node's part may be given: the one at the end of the relationship ahead of it, and of a Var that has one that one alone.
func (s *search) nodes(t *step, node int64) []int64 {
	if t.first && t.foretold {
		return t.among
	}
	if t.first {
		node = s.Row[t.at].Int
	}
	if t.known && s.Row[t.at].Int != node || !s.nodeFits(t, node) {
		return nil
	}
	return []int64{node}
}

func (s *search) nodeFits(t *step, id int64) bool {
	n, there := s.node(id)
	for _, label := range t.tags {
		there = there && slices.Contains(n.Labels, label)
	}
	return there && expr.Fits(t.want, n.Props)
}

// relFits tells whether a part may be given a relationship of the node on its left, and the node at its other end.
func (s *search) relFits(t *step, id, node int64) (int64, bool) {
	if _, taken := s.taken[id]; taken {
		return 0, false
	}
	r, _ := s.rel(id)
	if len(t.tags) > 0 && !slices.Contains(t.tags, r.Type) || !expr.Fits(t.want, r.Props) {
		return 0, false
	}
	if r.From == node {
		return r.To, true
	}
	return r.From, true
}
