package planner

import (
	"slices"

	"lattice/api"
	"lattice/stats"
)

// known is what is known of a plan so far.
type known struct {
	*counts
	first      []int // the number of each path's first part: the others follow, nodes and relationships by turns
	steps      []api.Step
	rows, cost int64
	given      bits // the parts that are given
	asked      bits // the conditions that are asked
	open, left int  // how many parts, how many conditions are not
}

// option is a step that may come next, with its work, and the rows behind it.
type option struct {
	api.Step
	work, rows int64
}

// nothing is what is known ahead of the first step. Some whole plan tells how many conditions there are.
func nothing(c api.Clause, s api.Stats, whole []api.Step) known {
	k := known{counts: &counts{s, c.Paths, kinds(), map[api.Step]int64{}}, rows: 1}
	for _, p := range c.Paths {
		k.first = append(k.first, k.open)
		k.open += len(p.Nodes) + len(p.Rels)
	}
	for _, step := range whole {
		if step.Kind == api.StepWhere {
			k.left++
		}
	}
	k.given, k.asked = bitsOf(k.open), bitsOf(k.left)
	return k
}

// apart is the same, and what is done to the one is not done to the other.
func (k known) apart() known {
	k.given, k.asked = slices.Clone(k.given), slices.Clone(k.asked)
	return k
}

// node is the number of a node's part, of the path that a step names.
func (k *known) node(s api.Step, part int) int { return k.first[s.Path] + 2*part }

// option reckons what a step would do now.
func (k *known) option(s api.Step) option {
	work := stats.Times(k.rows, k.each(s))
	o := option{s, work, work}
	switch s.Kind {
	case api.StepWhere:
		o.rows = stats.Share(work, 2)
	case api.StepRel:
		if _, far := ends(s); k.given.has(k.node(s, far)) {
			o.rows = stats.Share(work, stats.All(k.Stats))
		}
	}
	return o
}

// options are those of the choices that are not asked yet.
func (k *known) options(choices []api.Step) []option {
	l := make([]option, 0, len(choices))
	for _, s := range choices {
		if s.Kind != api.StepWhere || !k.asked.has(s.Cond) {
			l = append(l, k.option(s))
		}
	}
	return l
}

// do puts a step to the plan.
func (k *known) do(o option) {
	switch o.Kind {
	case api.StepWhere:
		k.left -= k.asked.put(o.Cond)
	case api.StepRel:
		_, far := ends(o.Step)
		k.open -= k.given.put(k.node(o.Step, o.Part)+1) + k.given.put(k.node(o.Step, far))
	default:
		k.open -= k.given.put(k.node(o.Step, o.Part))
	}
	k.steps = append(k.steps, o.Step)
	k.rows, k.cost = o.rows, stats.Plus(k.cost, o.work)
}

// finish asks the conditions that are left when all parts are given. In whatever order they are asked, the cost is the same; the rising one is that of the first choices.
func (k *known) finish() {
	for i := 0; k.left > 0; i++ {
		if !k.asked.has(i) {
			k.do(k.option(api.Step{Kind: api.StepWhere, Cond: i}))
		}
	}
}

// bits are numbers, from 0 on.
type bits []byte

func bitsOf(n int) bits { return make(bits, (n+7)/8) }

func (b bits) has(n int) bool { return b[n/8]>>(n%8)&1 == 1 }

// put tells how many numbers come to the others by it: one or none.
func (b bits) put(n int) int {
	if b.has(n) {
		return 0
	}
	b[n/8] |= 1 << (n % 8)
	return 1
}
