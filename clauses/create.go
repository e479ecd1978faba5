package clauses

import (
	"slices"

	"lattice/api"
	"lattice/value"
)

// making is a clause of CREATE that is done, path by path.
type making struct {
	*doing
	places map[string]int              // where the variables behind the clause stand
	asks   []patternAsks               // of each path
	many   bool                        // there was one element too many
	beyond struct{ first, next int64 } // the numbers of the nodes that were too many
}

// patternAsks are the Props of a path's nodes and relationships.
type patternAsks struct{ nodes, rels []asking }

// created is what CREATE makes. Behind one element too many no other is made; but what goes wrong counts ahead of that, so all rows are gone through, and nodes get the numbers beyond.
func (d *doing) created() [][]api.Value {
	m := &making{doing: d, places: placesOf(d.behind)}
	for _, p := range d.clause.Paths {
		m.asks = append(m.asks, d.patternAsks(p))
	}
	var rows [][]api.Value
	for _, row := range d.Rows {
		out := append(copied(row), make([]api.Value, len(d.behind)-len(row))...)
		for i, p := range d.clause.Paths {
			m.path(p, m.asks[i], out)
		}
		rows = append(rows, out)
	}
	if m.many {
		panic(api.ErrMany)
	}
	return rows
}

func (d *doing) patternAsks(p api.Path) patternAsks {
	var l patternAsks
	places := placesOf(d.Vars)
	for _, n := range p.Nodes {
		l.nodes = append(l.nodes, d.asked(n.Props, places))
	}
	for _, r := range p.Rels {
		l.rels = append(l.rels, d.asked(r.Props, places))
	}
	return l
}

// path makes what a path has that is not there; out is the row, with room for the new elements.
func (m *making) path(p api.Path, asks patternAsks, out []api.Value) {
	ends := make([]int64, len(p.Nodes))
	for i, n := range p.Nodes {
		props := storable(asks.nodes[i].props(n.Has, out))
		v := m.at(n.Var, out)
		if m.isVariable(n.Var) && none(*v) {
			panic(api.ErrWrong)
		}
		if none(*v) {
			*v = api.Value{Kind: api.ValueNode, Int: m.node(n.Labels, props)}
		}
		ends[i] = v.Int
	}
	for i, r := range p.Rels {
		props := storable(asks.rels[i].props(r.Has, out))
		from, to := ends[i], ends[i+1]
		if r.Dir < 0 {
			from, to = to, from
		}
		*m.at(r.Var, out) = api.Value{Kind: api.ValueRel, Int: m.rel(from, to, r.Types[0], props)}
	}
}

// isVariable tells whether a name is that of a variable ahead of the clause.
func (m *making) isVariable(name string) bool {
	return name != "" && m.places[name] < len(m.Vars)
}

// at is where the element of a Var stands, in a row; of a part without one it stands nowhere else.
func (m *making) at(name string, row []api.Value) *api.Value {
	if name == "" {
		return new(api.Value)
	}
	return &row[m.places[name]]
}

// node makes a node, unless there was one element too many.
func (m *making) node(labels []string, props []api.Prop) int64 {
	if !m.many {
		id, no := m.graph.AddNode(labels, props)
		if no != api.ErrMany {
			need(no)
			return id
		}
		m.tooMany()
	}
	m.beyond.next++
	return m.beyond.next - 1
}

// rel makes a relationship, unless there was one element too many. Both nodes must be there by now, whoever made them.
func (m *making) rel(from, to int64, kind string, props []api.Prop) int64 {
	if !m.many {
		id, no := m.graph.AddRel(from, to, kind, props)
		if no != api.ErrMany {
			need(no)
			return id
		}
		m.tooMany()
	}
	if !m.there(from) || !m.there(to) {
		panic(api.ErrWrong)
	}
	return 0
}

func (m *making) tooMany() {
	m.many = true
	m.beyond.first = m.graph.Tell().NextNode
	m.beyond.next = m.beyond.first
}

// there tells whether a node would be there by now, had none been too many.
func (m *making) there(id int64) bool {
	_, is := m.graph.Node(id)
	return is || m.beyond.first <= id && id < m.beyond.next
}

// storable gives up with properties that can't be stored; those that are nothing are left out when they are.
func storable(props []api.Prop) []api.Prop {
	if slices.ContainsFunc(props, func(p api.Prop) bool { return !none(p.Value) && !value.Storable(p.Value) }) {
		panic(api.ErrWrong)
	}
	return props
}
