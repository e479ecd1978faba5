package plan

import (
	"slices"

	"lattice/api"
	"lattice/expr"
	"lattice/graph"
	"lattice/match"
	"lattice/value"
)

// search goes through a plan's steps. In its row stand the columns, the new Vars behind them, and behind these the parts that have no Var: so all parts of one Var have one place there.
type search struct {
	graph    *graph.Graph
	node     func(int64) *api.Node
	rel      func(int64) *api.Rel
	optional bool
	row      []api.Value
	old, all int // how many columns there are, and how many with the new Vars
	turns    []turn
	taken    map[int64]struct{} // the relationships that parts are given
	vain     bool               // some part fits no node at all
}

// seat is a part, with what it asks for.
type seat struct {
	at   int      // its place in the row
	tags []string // a node's Labels, a relationship's Types
	want []api.Prop
}

// turn is a step, with what is known of it ahead of the first one.
type turn struct {
	kind  api.StepKind
	seat  seat    // the part that it gives
	among []int64 // of StepAll, StepLabel, StepSeek: the nodes that it gives

	// Of StepRel.
	near, far seat // the parts at its ends
	dir       int  // from the near end
	met       bool // a node stands at the far part's place already

	asked asking // of StepWhere
}

// found are the rows that the plan finds, in order.
func (s *search) found() [][]api.Value {
	var rows [][]api.Value
	s.each(func() {
		if len(rows) == api.MaxRows {
			panic(api.ErrWrong)
		}
		rows = append(rows, slices.Clone(s.row[s.old:s.all]))
	})
	if len(rows) == 0 && s.optional {
		rows = append(rows, make([]api.Value, s.all-s.old))
	}
	// What stands in the columns is the same in all rows: they need not be put in order by it.
	rows = match.Order(rows)
	for i, row := range rows {
		rows[i] = append(s.columns(), row...)
	}
	return rows
}

func (s *search) columns() []api.Value {
	var l []api.Value
	for _, v := range s.row[:s.old] {
		l = append(l, value.Copy(v))
	}
	return l
}

// each does all steps, and calls tell wherever it comes to their end. What stands in the row is not taken out again: where it is asked, it was put there on the same way.
func (s *search) each(tell func()) {
	if s.vain {
		return
	}
	var do func(n int)
	do = func(n int) {
		if n == len(s.turns) {
			tell()
			return
		}
		t := &s.turns[n]
		switch t.kind {
		case api.StepWhere:
			if t.asked.holds(s) {
				do(n + 1)
			}
		case api.StepRel:
			for _, id := range s.graph.Rels(s.row[t.near.at].Int, t.dir) {
				if s.take(t, id) {
					do(n + 1)
					delete(s.taken, id)
				}
			}
		case api.StepBound:
			if s.bound(t.seat) {
				do(n + 1)
			}
		default:
			for _, id := range t.among {
				s.row[t.seat.at] = nodeOf(id)
				do(n + 1)
			}
		}
	}
	do(0)
}

func nodeOf(id int64) api.Value { return api.Value{Kind: api.ValueNode, Int: id} }

// bound tells whether a node's part may be given what stands at its place.
func (s *search) bound(n seat) bool {
	v := s.row[n.at]
	return v.Kind == api.ValueNode && s.fits(n, v.Int)
}

func (s *search) fits(n seat, id int64) bool {
	is := s.node(id)
	if is == nil {
		return false
	}
	for _, label := range n.tags {
		if !slices.Contains(is.Labels, label) {
			return false
		}
	}
	return expr.Fits(n.want, is.Props)
}

// take gives a part a relationship, and the part at its other end the node there; or tells that it may not.
func (s *search) take(t *turn, id int64) bool {
	if _, taken := s.taken[id]; taken {
		return false
	}
	r := s.rel(id)
	far := r.To
	if r.From != s.row[t.near.at].Int {
		far = r.From
	}
	if t.met && s.row[t.far.at].Int != far || !typed(t.seat, r) || !s.fits(t.far, far) {
		return false
	}
	s.taken[id] = struct{}{}
	s.row[t.seat.at] = api.Value{Kind: api.ValueRel, Int: id}
	s.row[t.far.at] = nodeOf(far)
	return true
}

// typed tells whether a relationship is one as its part asks for.
func typed(part seat, r *api.Rel) bool {
	return (len(part.tags) == 0 || slices.Contains(part.tags, r.Type)) && expr.Fits(part.want, r.Props)
}
