package rewrite

import (
	"slices"

	"lattice/api"
	"lattice/plan"
)

// scheme is a plan that may be, with what it is a plan of.
type scheme struct {
	clause api.Clause
	vars   []api.Var
	steps  []api.Step
}

// planOf gives up with steps that are no plan that may be.
func planOf(c api.Clause, vars []api.Var, steps []api.Step) *scheme {
	if no := plan.Check(c, vars, steps...); no != api.OK {
		panic(no)
	}
	return &scheme{c, vars, slices.Clone(steps)}
}

// may tells whether steps are a plan that may be.
func (p *scheme) may(steps []api.Step) bool {
	return plan.Check(p.clause, p.vars, steps...) == api.OK
}

// made are the steps that a rewrite makes. It gives up with one that does not apply.
func (p *scheme) made(r api.Rewrite) []api.Step {
	rules := rules()
	need(r.Kind >= 0 && int(r.Kind) < len(rules))
	l := rules[r.Kind](p.steps, r)
	need(p.may(l))
	return l
}

func (p *scheme) applies(r api.Rewrite) bool {
	_, no := tried(func() []api.Step { return p.made(r) })
	return no == api.OK
}

// undone is the rewrite that undoes one that applies.
func (p *scheme) undone(r api.Rewrite) api.Rewrite {
	switch r.Kind {
	case api.RewriteFuse:
		r.Kind = api.RewriteSplit
		fallthrough
	case api.RewriteGive:
		r.Step = p.steps[r.At]
	case api.RewriteSplit:
		r = api.Rewrite{Kind: api.RewriteFuse, At: r.At}
	}
	return r
}

// pick does the n-th of all rewrites that apply, modulo how many there are.
func (p *scheme) pick(n int) {
	var l []api.Rewrite
	for r := range p.rewrites() {
		l = append(l, r)
		if len(l)-1 == n {
			break // the ones behind it do not count
		}
	}
	if len(l) == 0 {
		return
	}
	n %= len(l)
	if n < 0 {
		n += len(l)
	}
	p.steps = p.made(l[n])
}
