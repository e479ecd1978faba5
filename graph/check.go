package graph

import (
	"lattice/api"
	"lattice/value"
	"lattice/words"
)

// highest is the greatest number that the next node, the next relationship may get.
const highest = 1 << 62

// Check tells ErrArg of a graph that may not be.
func Check(g api.Graph) api.Errno {
	for _, holds := range rules() {
		if !holds(g) {
			return api.ErrArg
		}
	}
	return api.OK
}

// rules are what a graph must be. Each stands for itself; how many things there are is asked first, as it ends the work on a graph that is too great.
func rules() []func(api.Graph) bool {
	return []func(api.Graph) bool{fewEnough, numbersRise, labelsRise, propsRise, typesAreNames, endsAreThere}
}

func fewEnough(g api.Graph) bool { return len(g.Nodes)+len(g.Rels) <= api.MaxElements }

func numbersRise(g api.Graph) bool {
	return rising(g.Nodes, nodeNumber, g.NextNode) && rising(g.Rels, relNumber, g.NextRel)
}

func nodeNumber(n api.Node) int64 { return n.ID }

func relNumber(r api.Rel) int64 { return r.ID }

// rising tells whether numbers rise from 0 on, up to the next one; that one may not lie below 0 either, as something would get it.
func rising[T any](l []T, number func(T) int64, next int64) bool {
	least := int64(0)
	for _, x := range l {
		n := number(x)
		if n < least || n >= next {
			return false
		}
		least = n + 1
	}
	return next >= 0 && next <= highest
}

func labelsRise(g api.Graph) bool {
	for _, n := range g.Nodes {
		if !namesRise(n.Labels, func(label string) string { return label }) {
			return false
		}
	}
	return true
}

func propsRise(g api.Graph) bool {
	for _, n := range g.Nodes {
		if !propsMayBe(n.Props) {
			return false
		}
	}
	for _, r := range g.Rels {
		if !propsMayBe(r.Props) {
			return false
		}
	}
	return true
}

func propsMayBe(props []api.Prop) bool {
	for _, p := range props {
		if !value.Storable(p.Value) {
			return false
		}
	}
	return namesRise(props, func(p api.Prop) string { return p.Key })
}

// namesRise tells whether things are called by names that rise, each once.
func namesRise[T any](l []T, name func(T) string) bool {
	last := ""
	for _, x := range l {
		s := name(x)
		if !words.Name(s) || s <= last {
			return false
		}
		last = s
	}
	return true
}

func typesAreNames(g api.Graph) bool {
	for _, r := range g.Rels {
		if !words.Name(r.Type) {
			return false
		}
	}
	return true
}

func endsAreThere(g api.Graph) bool {
	there := map[int64]struct{}{}
	for _, n := range g.Nodes {
		there[n.ID] = struct{}{}
	}
	for _, r := range g.Rels {
		_, from := there[r.From]
		_, to := there[r.To]
		if !from || !to {
			return false
		}
	}
	return true
}
