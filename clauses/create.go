package clauses

import (
	"slices"

	"lattice/api"
	"lattice/value"
)

// making is a clause of CREATE that is done, path by path.
type making struct {
	*doing
	places map[string]int // where the variables behind the clause stand
	asks   []patternAsks  // of each path
	many   bool           // there was one element too many
}

// patternAsks are the Props of a path's nodes and relationships.
type patternAsks struct{ nodes, rels []asking }

// created is what CREATE makes. Behind one element too many no other is made; but what goes wrong counts ahead of that, so all rows are gone through.
func (d *doing) created() [][]api.Value {
	m := &making{doing: d, places: placesOf(d.behind)}
	for _, p := range d.clause.Paths {
		m.asks = append(m.asks, d.patternAsks(p))
	}
	var rows [][]api.Value
	for _, row := range d.Rows {
		out := append(copied(row), make([]api.Value, len(d.behind)-len(row))...)
		for i, p := range d.clause.Paths {
			m.path(p, m.asks[i], out)
		}
		rows = append(rows, out)
	}
	if m.many {
		panic(api.ErrMany)
	}
	return rows
}

func (d *doing) patternAsks(p api.Path) patternAsks {
	var l patternAsks
	places := placesOf(d.Vars)
	for _, n := range p.Nodes {
		l.nodes = append(l.nodes, d.asked(n.Props, places))
	}
	for _, r := range p.Rels {
		l.rels = append(l.rels, d.asked(r.Props, places))
	}
	return l
}

// path makes what a path has that is not there; out is the row, with room for the new elements.
func (m *making) path(p api.Path, asks patternAsks, out []api.Value) {
	ends := make([]int64, len(p.Nodes))
	for i, n := range p.Nodes {
		props := storable(asks.nodes[i].props(n.Has, out))
		if m.isVariable(n.Var) {
			ends[i] = m.known(out[m.places[n.Var]], len(p.Rels) > 0)
		} else if v := m.at(n.Var, out); v.Kind == api.ValueNode {
			ends[i] = v.Int
		} else {
			ends[i] = m.made(v, api.ValueNode, func() (int64, api.Errno) { return m.graph.AddNode(n.Labels, props) })
		}
	}
	for i, r := range p.Rels {
		props := storable(asks.rels[i].props(r.Has, out))
		from, to := ends[i], ends[i+1]
		if r.Dir < 0 {
			from, to = to, from
		}
		m.made(m.at(r.Var, out), api.ValueRel, func() (int64, api.Errno) { return m.graph.AddRel(from, to, r.Types[0], props) })
	}
}

// isVariable tells whether a name is that of a variable ahead of the clause.
func (m *making) isVariable(name string) bool {
	return name != "" && m.places[name] < len(m.Vars)
}

// at is where the element of a Var stands, in a row; of a part without one it stands nowhere else.
func (m *making) at(name string, row []api.Value) *api.Value {
	if name == "" {
		return new(api.Value)
	}
	return &row[m.places[name]]
}

// known is the number of a node that a variable has. One that gets a relationship must be there.
func (m *making) known(v api.Value, linked bool) int64 {
	_, there := m.ahead.Node(v.Int)
	if none(v) || linked && !there {
		panic(api.ErrWrong)
	}
	return v.Int
}

// made makes an element, unless there was one too many.
func (m *making) made(v *api.Value, kind api.ValueKind, add func() (int64, api.Errno)) int64 {
	if m.many {
		return 0
	}
	id, no := add()
	if no == api.ErrMany {
		m.many = true
		return 0
	}
	need(no)
	*v = api.Value{Kind: kind, Int: id}
	return id
}

// storable gives up with properties that can't be stored; those that are nothing are left out when they are.
func storable(props []api.Prop) []api.Prop {
	if slices.ContainsFunc(props, func(p api.Prop) bool { return !none(p.Value) && !value.Storable(p.Value) }) {
		panic(api.ErrWrong)
	}
	return props
}
