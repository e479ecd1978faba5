package rewrite_test

import (
	"cmp"
	"math"
	"slices"

	"lattice/api"
	"lattice/plan"
)

// Another way of rewriting: the chapter's words one by one, of all rewrites that one can think of, each tried.
type words struct {
	clause  api.Clause
	columns []api.Var
	steps   []api.Step
}

// gives tells whether a step is one of the kinds up to most, which give a node's part.
func gives(s api.Step, most api.StepKind) bool { return 0 <= s.Kind && s.Kind <= most }

// made is what a rewrite makes, if it applies.
func (w words) made(r api.Rewrite) (l []api.Step, applies bool) {
	last, at := len(w.steps)-1, r.At
	l = slices.Clone(w.steps)
	if at < 0 || at > last && r.Kind != api.RewriteSplit || at > last+1 {
		return nil, false
	}
	switch r.Kind {
	case api.RewriteGive:
		old := l[at]
		applies = gives(old, api.StepSeek) && gives(r.Step, api.StepSeek) && old != r.Step && old.Path == r.Step.Path && old.Part == r.Step.Part
		l[at] = r.Step
	case api.RewriteSwap:
		if applies = at < last; applies {
			l[at], l[at+1] = l[at+1], l[at]
		}
	case api.RewriteTurn:
		applies = l[at].Kind == api.StepRel
		l[at].Back = !l[at].Back
	case api.RewriteFuse:
		applies = gives(l[at], api.StepBound)
		l = slices.Delete(l, at, at+1)
	case api.RewriteSplit:
		applies = gives(r.Step, api.StepBound)
		l = slices.Insert(l, at, r.Step)
	}
	if r.Kind != api.RewriteGive && r.Kind != api.RewriteSplit && r.Step != (api.Step{}) {
		applies = false
	}
	if !applies || plan.Check(w.clause, w.columns, l...) != api.OK {
		return nil, false
	}
	return l, true
}

// thought are steps, in no good order: all that name what the clause has, and some that name what it has not.
func (w words) thought() (l []api.Step) {
	parts := 0
	for i, p := range w.clause.Paths {
		parts = max(parts, len(p.Nodes))
		for j, n := range p.Nodes {
			for _, label := range append(n.Labels, "", "Z") {
				l = append(l, api.Step{Kind: api.StepLabel, Path: i, Part: j, Label: label})
				for _, key := range append(n.Props.Keys, "", "z") {
					l = append(l, api.Step{Kind: api.StepSeek, Path: i, Part: j, Label: label, Key: key})
				}
			}
		}
	}
	for i := -1; i <= len(w.clause.Paths); i++ {
		for j := -1; j <= parts; j++ {
			for _, kind := range []api.StepKind{api.StepRel, api.StepBound, api.StepAll, -1, 6} {
				l = append(l, api.Step{Kind: kind, Path: i, Part: j})
			}
		}
	}
	return append(l, api.Step{Kind: api.StepWhere}, api.Step{Back: true}, api.Step{Cond: 1}, api.Step{Label: "A"})
}

// rewrites are some that apply and some that don't: all that do are among them.
func (w words) rewrites() (l []api.Rewrite) {
	for _, at := range []int{math.MaxInt, math.MinInt, -1} {
		for kind := range api.RewriteSplit + 1 {
			l = append(l, api.Rewrite{Kind: kind, At: at})
		}
	}
	thought := w.thought()
	for at := range len(w.steps) + 2 {
		for kind := api.RewriteKind(-1); kind <= 5; kind++ {
			if kind == api.RewriteGive || kind == api.RewriteSplit {
				for _, s := range thought {
					l = append(l, api.Rewrite{Kind: kind, At: at, Step: s})
				}
				continue
			}
			l = append(l, api.Rewrite{Kind: kind, At: at}, api.Rewrite{Kind: kind, At: at, Step: thought[at%len(thought)]})
		}
	}
	return l
}

// all are the rewrites that apply, in order, each once.
func (w words) all() (l []api.Rewrite) {
	for _, r := range w.rewrites() {
		if _, applies := w.made(r); applies {
			l = append(l, r)
		}
	}
	slices.SortFunc(l, byFields)
	return slices.Compact(l)
}

func byFields(a, b api.Rewrite) int {
	x, y := a.Step, b.Step
	return cmp.Or(cmp.Compare(a.Kind, b.Kind), cmp.Compare(a.At, b.At), cmp.Compare(x.Kind, y.Kind), cmp.Compare(x.Path, y.Path), cmp.Compare(x.Part, y.Part), cmp.Compare(x.Label, y.Label), cmp.Compare(x.Key, y.Key))
}

// many does picked rewrites.
func (w words) many(picks []int) []api.Step {
	for _, n := range picks {
		if l := w.all(); len(l) > 0 {
			w.steps, _ = w.made(l[(n%len(l)+len(l))%len(l)])
		}
	}
	return w.steps
}

// late is the place ahead of the first condition that keeps the plan from being early; -1, if none does.
func (w words) late() int {
	for i := range w.steps {
		_, applies := w.made(api.Rewrite{Kind: api.RewriteSwap, At: i})
		if applies && w.steps[i].Kind != api.StepWhere && w.steps[i+1].Kind == api.StepWhere {
			return i
		}
	}
	return -1
}

// early does one swap after the other.
func (w words) early() []api.Step {
	for w.late() >= 0 {
		w.steps, _ = w.made(api.Rewrite{Kind: api.RewriteSwap, At: w.late()})
	}
	return w.steps
}

// sharp takes, for each step that keeps the plan from being sharp, the best rewrite that says so.
func (w words) sharp() []api.Step {
	l, all := slices.Clone(w.steps), w.all()
	for at, old := range w.steps {
		for _, kind := range []api.StepKind{api.StepSeek, api.StepLabel} {
			best := slices.IndexFunc(all, func(r api.Rewrite) bool { return r.Kind == api.RewriteGive && r.At == at && r.Step.Kind == kind })
			if old.Kind < kind && best >= 0 {
				l[at] = all[best].Step
				break
			}
		}
	}
	return l
}
