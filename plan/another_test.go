package plan_test

import (
	"cmp"
	"slices"

	"lattice/api"
	"lattice/sema"
)

// Another way of asking whether a plan may be: the chapter's words one by one, of each step anew, from all steps ahead of it.
type rules struct {
	clause  api.Clause
	columns []api.Var
	conds   []api.Expr
	leading int
	steps   []api.Step
	thought []api.Step // all steps that one can think of for the clause, and some more
}

// spot is a part.
type spot struct {
	rel        bool
	path, part int
}

func rulesOf(c api.Clause, columns []api.Var, steps []api.Step) (rules, api.Errno) {
	behind, no := sema.Clause(c, columns...)
	if no != api.OK || c.Kind != api.ClauseMatch {
		return rules{}, api.ErrArg
	}
	r := rules{clause: c, columns: columns, steps: steps}
	if c.HasWhere {
		r.conds, r.leading = sema.Parts(c.Where), sema.Leading(c.Where, behind...)
	}
	r.thought = r.think()
	return r, api.OK
}

// spots are all parts.
func (r rules) spots() (l []spot) {
	for i, p := range r.clause.Paths {
		for j := range p.Nodes {
			l = append(l, spot{false, i, j})
		}
		for j := range p.Rels {
			l = append(l, spot{true, i, j})
		}
	}
	return l
}

func (r rules) name(s spot) string {
	if s.rel {
		return r.clause.Paths[s.path].Rels[s.part].Var
	}
	return r.clause.Paths[s.path].Nodes[s.part].Var
}

func far(s api.Step) spot {
	if s.Back {
		return spot{false, s.Path, s.Part}
	}
	return spot{false, s.Path, s.Part + 1}
}

// given are the parts that the first n steps give, each as often as it is given.
func (r rules) given(n int) (l []spot) {
	for _, s := range r.steps[:n] {
		switch s.Kind {
		case api.StepAll, api.StepLabel, api.StepSeek, api.StepBound:
			l = append(l, spot{false, s.Path, s.Part})
		case api.StepRel:
			l = append(l, spot{true, s.Path, s.Part})
			if !slices.Contains(l, far(s)) {
				l = append(l, far(s))
			}
		}
	}
	return l
}

func (r rules) asked(n int) (l []int) {
	for _, s := range r.steps[:n] {
		if s.Kind == api.StepWhere {
			l = append(l, s.Cond)
		}
	}
	return l
}

// known tells whether a Var is known at a step.
func (r rules) known(n int, name string) bool {
	column := func(v api.Var) bool { return v.Name == name }
	part := func(s spot) bool { return r.name(s) == name }
	return name != "" && (slices.ContainsFunc(r.columns, column) || slices.ContainsFunc(r.given(n), part))
}

// used tells whether a step has nothing that its kind does not use.
func used(s api.Step) bool {
	where, label, seek := s.Kind == api.StepWhere, s.Kind == api.StepLabel, s.Kind == api.StepSeek
	return (!where || s.Path == 0 && s.Part == 0) && (where || s.Cond == 0) && (!s.Back || s.Kind == api.StepRel) && (s.Label == "" || label || seek) && (s.Key == "" || seek)
}

// stands tells whether the n-th step may stand where it stands.
func (r rules) stands(n int) bool {
	s := r.steps[n]
	if !used(s) {
		return false
	}
	if s.Kind == api.StepWhere {
		return r.askedWell(n)
	}
	all, given := r.spots(), r.given(n)
	at := spot{s.Kind == api.StepRel, s.Path, s.Part}
	if !slices.Contains(all, at) || slices.Contains(given, at) {
		return false
	}
	if s.Kind == api.StepRel {
		near := spot{false, s.Path, s.Part}
		if s.Back {
			near.part++
		}
		return slices.Contains(given, near)
	}
	pat := r.clause.Paths[s.Path].Nodes[s.Part]
	keys := 0
	for _, k := range pat.Props.Keys {
		if pat.Has && k == s.Key {
			keys++
		}
	}
	switch s.Kind {
	case api.StepAll:
		return !r.known(n, pat.Var)
	case api.StepLabel:
		return !r.known(n, pat.Var) && slices.Contains(pat.Labels, s.Label)
	case api.StepSeek:
		return !r.known(n, pat.Var) && slices.Contains(pat.Labels, s.Label) && keys == 1
	case api.StepBound:
		return r.known(n, pat.Var)
	}
	return false
}

// askedWell tells whether the n-th step asks a condition where it may be asked.
func (r rules) askedWell(n int) bool {
	cond, asked := r.steps[n].Cond, r.asked(n)
	if cond < 0 || cond >= len(r.conds) || slices.Contains(asked, cond) {
		return false
	}
	if cond < r.leading {
		return !slices.ContainsFunc(sema.Uses(r.conds[cond]), func(name string) bool { return !r.known(n, name) })
	}
	for i := range cond {
		if !slices.Contains(asked, i) {
			return false
		}
	}
	return len(r.given(n)) == len(r.spots())
}

// draft tells whether each step may stand where it stands.
func (r rules) draft() bool {
	for n := range r.steps {
		if !r.stands(n) {
			return false
		}
	}
	return true
}

// may tells whether the plan may be.
func (r rules) may() bool {
	n := len(r.steps)
	return r.draft() && len(r.given(n)) == len(r.spots()) && len(r.asked(n)) == len(r.conds)
}

// think tells steps in no good order.
func (r rules) think() (l []api.Step) {
	paths, parts := len(r.clause.Paths), 0
	labels, keys := []string{"", "Z"}, []string{"", "z"}
	for _, p := range r.clause.Paths {
		parts = max(parts, len(p.Nodes))
		for _, n := range p.Nodes {
			labels, keys = append(labels, n.Labels...), append(keys, n.Props.Keys...)
		}
	}
	slices.Sort(labels)
	slices.Sort(keys)
	labels, keys = slices.Compact(labels), slices.Compact(keys)
	for i := -1; i <= paths; i++ {
		for j := -1; j <= parts; j++ {
			at := api.Step{Path: i, Part: j}
			for _, kind := range []api.StepKind{api.StepBound, api.StepAll, -1, 6} {
				at.Kind = kind
				l = append(l, at)
			}
			l = append(l, api.Step{Kind: api.StepRel, Path: i, Part: j, Back: true}, api.Step{Kind: api.StepRel, Path: i, Part: j})
			for _, at.Label = range labels {
				at.Kind, at.Key = api.StepLabel, ""
				l = append(l, at)
				for _, at.Key = range keys {
					at.Kind = api.StepSeek
					l = append(l, at)
				}
			}
		}
	}
	for i := -1; i <= len(r.conds); i++ {
		l = append(l, api.Step{Kind: api.StepWhere, Cond: i})
	}
	return l
}

// with is the rules of one more step.
func (r rules) with(s api.Step) rules {
	r.steps = append(slices.Clip(r.steps), s)
	return r
}

// choices are, of all that can be thought of, what may come next, in order.
func (r rules) choices() (l []api.Step) {
	next := r.with(api.Step{})
	for _, s := range r.thought {
		next.steps[len(r.steps)] = s
		if next.stands(len(r.steps)) && !slices.Contains(l, s) {
			l = append(l, s)
		}
	}
	slices.SortFunc(l, byFields)
	return l
}

func byFields(a, b api.Step) int {
	back := func(s api.Step) int {
		if s.Back {
			return 1
		}
		return 0
	}
	return cmp.Or(cmp.Compare(a.Kind, b.Kind), cmp.Compare(a.Path, b.Path), cmp.Compare(a.Part, b.Part), cmp.Compare(back(a), back(b)), cmp.Compare(a.Label, b.Label), cmp.Compare(a.Key, b.Key), cmp.Compare(a.Cond, b.Cond))
}

// plans goes over all plans that may be and begin with these steps.
func (r rules) plans(tell func([]api.Step)) {
	if r.may() {
		tell(r.steps)
	}
	for _, s := range r.choices() {
		r.with(s).plans(tell)
	}
}
