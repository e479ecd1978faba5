package plan

import (
	"iter"
	"slices"

	"lattice/api"
)

// choices goes over the steps that may stand next, in order.
func (d *draft) choices() iter.Seq[api.Step] {
	return func(yield func(api.Step) bool) {
		for s := range d.thought() {
			if d.may(s) && !yield(s) {
				return
			}
		}
	}
}

// thought goes over the steps that name what the clause has, in order, whether they may stand next or not.
func (d *draft) thought() iter.Seq[api.Step] {
	return func(yield func(api.Step) bool) {
		for kind := api.StepAll; kind <= api.StepBound; kind++ {
			if !d.ofNodes(kind, yield) {
				return
			}
		}
		if !d.ofRels(yield) {
			return
		}
		for i := range d.asked {
			if !yield(api.Step{Kind: api.StepWhere, Cond: i}) {
				return
			}
		}
	}
}

// ofNodes goes over the steps of a kind that give a node's part, of the parts that are not given. It tells whether it may go on.
func (d *draft) ofNodes(kind api.StepKind, yield func(api.Step) bool) bool {
	for i, p := range d.paths {
		for j, n := range p.nodes {
			if !n.given && !n.each(api.Step{Kind: kind, Path: i, Part: j}, yield) {
				return false
			}
		}
	}
	return true
}

// each puts into a step what its kind names of the part.
func (n part) each(s api.Step, yield func(api.Step) bool) bool {
	labels, keys := []string{""}, []string{""}
	switch s.Kind {
	case api.StepSeek:
		keys = n.keys
		fallthrough
	case api.StepLabel:
		labels = n.labels
	}
	for _, label := range labels {
		for _, key := range keys {
			s.Label, s.Key = label, key
			if !yield(s) {
				return false
			}
		}
	}
	return true
}

// ofRels goes over the steps that give a relationship, of those that are not given. It tells whether it may go on.
func (d *draft) ofRels(yield func(api.Step) bool) bool {
	for i, p := range d.paths {
		for j, r := range p.rels {
			s := api.Step{Kind: api.StepRel, Path: i, Part: j}
			back := s
			back.Back = true
			if !r.given && !(yield(s) && yield(back)) {
				return false
			}
		}
	}
	return true
}

// picked does what is left by picks, and tells the steps.
func (d *draft) picked(picks []int) []api.Step {
	var l []api.Step
	for !d.whole() {
		n := 0
		if len(l) < len(picks) {
			n = picks[len(l)]
		}
		s := d.choice(n)
		d.do(s)
		l = append(l, s)
	}
	return l
}

// choice is the n-th of the choices, modulo how many there are. There always is one: a node's part that is not given can be given, a relationship between two that are too, and when all are given a condition can be asked.
func (d *draft) choice(n int) api.Step {
	if n == 0 {
		for s := range d.choices() {
			return s
		}
	}
	l := slices.Collect(d.choices())
	n %= len(l)
	if n < 0 {
		n += len(l)
	}
	return l[n]
}

// plain does all from the left, and tells the steps.
func (d *draft) plain() []api.Step {
	var l []api.Step
	put := func(s api.Step) {
		d.do(s)
		l = append(l, s)
	}
	for i, p := range d.paths {
		first := api.Step{Kind: api.StepAll, Path: i}
		if d.knows(p.nodes[0].name) {
			first.Kind = api.StepBound
		}
		put(first)
		for j := range p.rels {
			put(api.Step{Kind: api.StepRel, Path: i, Part: j})
		}
	}
	for i := range d.asked {
		put(api.Step{Kind: api.StepWhere, Cond: i})
	}
	return l
}
