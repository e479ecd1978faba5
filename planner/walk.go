package planner

import (
	"slices"

	"lattice/api"
	"lattice/plan"
)

// walk goes from plan to plan of a clause.
type walk struct {
	known
	clause api.Clause
	vars   []api.Var
	next   map[string][]api.Step // the choices, by the parts that are given
}

// tooMany is what a walk gives up with that takes too many tries.
type tooMany struct{}

// walkOf refuses a clause that may not be asked.
func walkOf(c api.Clause, vars []api.Var, s api.Stats) (*walk, api.Errno) {
	whole, no := plan.Plain(c, vars...)
	if no != api.OK {
		return nil, no
	}
	return &walk{nothing(c, s, whole), c, vars, map[string][]api.Step{}}, api.OK
}

// choices are the steps that may come next, those with them that ask a condition again: a condition that is asked makes nothing known, so that only the parts' steps count for what else may come. There is no error: the clause may be asked, and all steps are choices.
func (w *walk) choices() []api.Step {
	given := slices.DeleteFunc(slices.Clone(w.steps), func(s api.Step) bool { return s.Kind == api.StepWhere })
	l, _ := plan.Choices(w.clause, w.vars, given...)
	return l
}

// greedy goes on with the least of the choices each time, to the end of a plan.
func (w *walk) greedy() []api.Step {
	l := w.choices()
giving:
	for {
		o := least(w.options(l))
		w.do(o)
		switch {
		case w.open == 0:
			break giving
		case o.Kind != api.StepWhere:
			l = w.choices()
		}
	}
	w.finish()
	return w.steps
}

// least is the option of the least work; of such ones of the fewest rows; of such ones the first.
func least(l []option) option {
	work := func(o option) int64 { return o.work }
	rows := func(o option) int64 { return o.rows }
	least := l[0]
	for _, o := range l {
		if ahead(o, least, work, rows) {
			least = o
		}
	}
	return least
}

// ahead tells whether one thing is less than another by the first of some numbers in which they differ.
func ahead[T any](a, b T, numbers ...func(T) int64) bool {
	for _, of := range numbers {
		if x, y := of(a), of(b); x != y {
			return x < y
		}
	}
	return false
}

// best goes through all plans, and tells the first one of the least cost; or that there are too many tries. What it leaves is of no use any more.
func (w *walk) best(tries int) (best []api.Step, all bool) {
	defer func() {
		r := recover()
		if _, many := r.(tooMany); many {
			best, all = nil, false
		} else if r != nil {
			panic(r)
		}
	}()
	cost := int64(0)
	var through func()
	through = func() {
		l := w.options(w.met())
		// They will all be tried: whether that is too often is known ahead of the first one.
		tries -= w.tries(len(l), tries)
		if tries < 0 {
			panic(tooMany{})
		}
		if w.open == 0 {
			w.finish()
			if best == nil || w.cost < cost {
				best, cost = slices.Clone(w.steps), w.cost
			}
			return
		}
		for _, o := range l {
			old := w.known
			w.known = old.apart()
			w.do(o)
			through()
			w.known = old
		}
	}
	through()
	return best, true
}

// met are the choices, asked once for each set of parts: they do not hang on the order in which these are given.
func (w *walk) met() []api.Step {
	l, is := w.next[string(w.given)]
	if !is {
		l = w.choices()
		w.next[string(w.given)] = l
	}
	return l
}

// tries tells how many tries so many options are; when all parts are given, with all tries behind them: first in any order the conditions that are options, then the others in one. More than most are any number above it.
func (w *walk) tries(options, most int) int {
	if w.open > 0 {
		return options
	}
	n := w.left - options
	for i := 1; i <= options && n <= most; i++ {
		n = i * (1 + n)
	}
	return n
}
