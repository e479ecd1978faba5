package planner_test

import (
	"math/big"

	"lattice/api"
	"lattice/plan"
	"lattice/stats"
)

// Another way of reckoning: the chapter's table step by step, by numbers that never wrap; and all plans gone through by layer 13's Choices, one by one.
type words struct {
	clause  api.Clause
	columns []api.Var
	counts  api.Stats
}

// cut is at most 2^62.
func cut(n *big.Int) *big.Int {
	if n.Cmp(big.NewInt(most)) > 0 {
		return big.NewInt(most)
	}
	return n
}

// share is a over b, rounded up.
func share(a *big.Int, b int64) *big.Int {
	n, left := new(big.Int).QuoRem(a, big.NewInt(max(b, 1)), new(big.Int))
	if left.Sign() > 0 {
		n.Add(n, big.NewInt(1))
	}
	return n
}

// sum is what is known behind some steps.
type sum struct{ rows, cost *big.Int }

func zero() sum { return sum{big.NewInt(1), big.NewInt(0)} }

// behind is the sum behind one more step, and its work.
func (w words) behind(x sum, ahead []api.Step, s api.Step) (sum, *big.Int) {
	work := cut(new(big.Int).Mul(x.rows, big.NewInt(w.each(s))))
	rows := work
	if s.Kind == api.StepWhere {
		rows = share(x.rows, 2)
	}
	if s.Kind == api.StepRel && w.farGiven(ahead, s) {
		rows = share(work, stats.All(w.counts))
	}
	return sum{rows, cut(new(big.Int).Add(x.cost, work))}, work
}

func (w words) each(s api.Step) int64 {
	switch s.Kind {
	case api.StepAll:
		return stats.All(w.counts)
	case api.StepLabel:
		return stats.Labelled(w.counts, s.Label)
	case api.StepSeek:
		return stats.Seek(w.counts, s.Label, s.Key)
	case api.StepRel:
		p := w.clause.Paths[s.Path]
		near, dir, types := p.Nodes[s.Part], p.Rels[s.Part].Dir, p.Rels[s.Part].Types
		if s.Back {
			near = p.Nodes[s.Part+1]
			dir = map[int]int{1: -1, -1: 1}[dir]
		}
		if len(near.Labels) == 0 {
			return stats.Fan(w.counts, dir, types...)
		}
		n := stats.From(w.counts, near.Labels[0], dir, types...)
		for _, label := range near.Labels {
			n = min(n, stats.From(w.counts, label, dir, types...))
		}
		return n
	}
	return 1
}

// farGiven tells whether some step ahead gives the part at the other end.
func (w words) farGiven(ahead []api.Step, s api.Step) bool {
	far := s.Part + 1
	if s.Back {
		far = s.Part
	}
	for _, x := range ahead {
		switch {
		case x.Kind == api.StepWhere || x.Path != s.Path:
		case x.Kind != api.StepRel:
			if x.Part == far {
				return true
			}
		case x.Back && x.Part == far || !x.Back && x.Part+1 == far:
			return true
		}
	}
	return false
}

// sum is a plan's rows behind each step, and its cost.
func (w words) sum(l []api.Step) (rows []int64, cost *big.Int) {
	x := zero()
	for i, s := range l {
		x, _ = w.behind(x, l[:i], s)
		rows = append(rows, x.rows.Int64())
	}
	return rows, x.cost
}

// reckoned is sum, told as Rows and Cost are.
func (w words) reckoned(l []api.Step) string {
	rows, cost := w.sum(l)
	return numbers(rows...) + ", " + cost.String()
}

func (w words) choices(l []api.Step) []api.Step {
	next, no := plan.Choices(w.clause, w.columns, l...)
	if no != api.OK {
		panic(no)
	}
	return next
}

func (w words) greedy() (l []api.Step) {
	x := zero()
	for {
		next := w.choices(l)
		if len(next) == 0 {
			return l
		}
		best := -1
		var bestSum sum
		var bestWork *big.Int
		for i, s := range next {
			y, work := w.behind(x, l, s)
			if best < 0 || work.Cmp(bestWork) < 0 || work.Cmp(bestWork) == 0 && y.rows.Cmp(bestSum.rows) < 0 {
				best, bestSum, bestWork = i, y, work
			}
		}
		l, x = append(l, next[best]), bestSum
	}
}

// plans goes over all plans with their costs, in order, as long as it may, and counts tries.
func (w words) plans(tell func(l []api.Step, cost *big.Int), tries *int, may int) bool {
	var try func(l []api.Step, x sum) bool
	try = func(l []api.Step, x sum) bool {
		next := w.choices(l)
		if len(next) == 0 {
			tell(l, x.cost)
		}
		for _, s := range next {
			if *tries++; *tries > may {
				return false
			}
			y, _ := w.behind(x, l, s)
			if !try(append(l[:len(l):len(l)], s), y) {
				return false
			}
		}
		return true
	}
	return try(nil, zero())
}

// best is the best plan, and how many tries all of them are; if these are more than so many, the greedy plan, and -1.
func (w words) best(may int) (best []api.Step, tries int) {
	var least *big.Int
	all := w.plans(func(l []api.Step, cost *big.Int) {
		if least == nil || cost.Cmp(least) < 0 {
			best, least = l, cost
		}
	}, &tries, may)
	if !all {
		return w.greedy(), -1
	}
	return best, tries
}
