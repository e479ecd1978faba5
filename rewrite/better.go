package rewrite

import (
	"sort"

	"lattice/api"
)

// hurry makes the plan early. No condition is put ahead of another one, so each of them, the foremost first, goes as far as it may, and then stays. Where it may be asked, it may be asked behind that too: so its place is found by halving.
func (p *scheme) hurry() {
	front := 0 // behind the conditions that stay
	for at, s := range p.steps {
		if s.Kind != api.StepWhere {
			continue
		}
		rest := spliced(p.steps, at, 1)
		front += sort.Search(at-front, func(n int) bool { return p.may(spliced(rest, front+n, 0, s)) })
		p.steps = spliced(rest, front, 0, s)
		front++
	}
}

// sharpen makes the plan sharp.
func (p *scheme) sharpen() {
	for at := range p.steps {
		p.steps[at] = p.sharpest(at)
	}
}

// sharpest is the step that is to give what the one at a place gives: that one itself, if it does not keep the plan from being sharp.
func (p *scheme) sharpest(at int) api.Step {
	best := p.steps[at]
	if best.Kind != api.StepAll && best.Kind != api.StepLabel {
		return best
	}
choices:
	for _, s := range p.gives(at) {
		switch {
		case s.Kind == api.StepSeek:
			best = s
			break choices
		case best.Kind == api.StepAll:
			best = s
		}
	}
	return best
}
