package planner

import (
	"math"

	"lattice/api"
	"lattice/stats"
)

// counts are those of a graph, with what they tell of a clause's steps. What a step does for one row hangs on no other step, so it is reckoned once.
type counts struct {
	api.Stats
	paths []api.Path
	kinds map[api.StepKind]func(*counts, api.Step) int64
	told  map[api.Step]int64
}

// kinds tell a step's work for one row.
func kinds() map[api.StepKind]func(*counts, api.Step) int64 {
	return map[api.StepKind]func(*counts, api.Step) int64{
		api.StepAll:   (*counts).all,
		api.StepLabel: (*counts).labelled,
		api.StepSeek:  (*counts).sought,
		api.StepBound: (*counts).one,
		api.StepRel:   (*counts).fan,
		api.StepWhere: (*counts).one,
	}
}

// each is a step's work for one row.
func (n *counts) each(s api.Step) int64 {
	work, is := n.told[s]
	if !is {
		work = n.kinds[s.Kind](n, s)
		n.told[s] = work
	}
	return work
}

func (n *counts) all(api.Step) int64 { return stats.All(n.Stats) }

func (n *counts) labelled(s api.Step) int64 { return stats.Labelled(n.Stats, s.Label) }

func (n *counts) sought(s api.Step) int64 { return stats.Seek(n.Stats, s.Label, s.Key) }

func (n *counts) one(api.Step) int64 { return 1 }

// fan is how many relationships the node at a step's near end has, in the mean.
func (n *counts) fan(s api.Step) int64 {
	p := n.paths[s.Path]
	r := p.Rels[s.Part]
	dir := r.Dir
	if s.Back {
		dir = -dir
	}
	near, _ := ends(s)
	labels := p.Nodes[near].Labels
	if len(labels) == 0 {
		return stats.Fan(n.Stats, dir, r.Types...)
	}
	least := int64(math.MaxInt64)
	for _, label := range labels {
		least = min(least, stats.From(n.Stats, label, dir, r.Types...))
	}
	return least
}

// ends are the numbers of the nodes' parts at a relationship's near end, and at its other one.
func ends(s api.Step) (near, far int) {
	if s.Back {
		return s.Part + 1, s.Part
	}
	return s.Part, s.Part + 1
}
