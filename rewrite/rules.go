package rewrite

import (
	"slices"

	"lattice/api"
)

// rule makes what a rewrite of its kind makes of steps, whether that may be or not. It gives up with a rewrite that has not what its kind needs.
type rule func(steps []api.Step, r api.Rewrite) []api.Step

// rules are those of all kinds.
func rules() [api.RewriteSplit + 1]rule {
	return [...]rule{
		api.RewriteGive:  give,
		api.RewriteSwap:  swap,
		api.RewriteTurn:  turn,
		api.RewriteFuse:  fuse,
		api.RewriteSplit: split,
	}
}

func give(steps []api.Step, r api.Rewrite) []api.Step {
	need(another(stepAt(steps, r.At), r.Step))
	return spliced(steps, r.At, 1, r.Step)
}

func swap(steps []api.Step, r api.Rewrite) []api.Step {
	first := stepAt(steps, r.At)
	second := stepAt(steps, r.At+1)
	need(r.Step == api.Step{})
	return spliced(steps, r.At, 2, second, first)
}

func turn(steps []api.Step, r api.Rewrite) []api.Step {
	s := stepAt(steps, r.At)
	need(takes(r.Kind, s) && r.Step == api.Step{})
	s.Back = !s.Back
	return spliced(steps, r.At, 1, s)
}

func fuse(steps []api.Step, r api.Rewrite) []api.Step {
	need(takes(r.Kind, stepAt(steps, r.At)) && r.Step == api.Step{})
	return spliced(steps, r.At, 1)
}

func split(steps []api.Step, r api.Rewrite) []api.Step {
	need(takes(r.Kind, r.Step) && r.At >= 0 && r.At <= len(steps))
	return spliced(steps, r.At, 0, r.Step)
}

// need gives up with a rewrite that has not what it needs.
func need(so bool) {
	if !so {
		panic(api.ErrRewrite)
	}
}

// stepAt is the step at a place; where there is none, it gives up.
func stepAt(steps []api.Step, at int) api.Step {
	need(at >= 0 && at < len(steps))
	return steps[at]
}

// takes tells whether a rewrite of a kind may be one of such a step.
func takes(kind api.RewriteKind, s api.Step) bool {
	switch kind {
	case api.RewriteTurn:
		return s.Kind == api.StepRel
	case api.RewriteGive:
		if s.Kind == api.StepBound {
			return false
		}
		fallthrough
	case api.RewriteFuse, api.RewriteSplit:
		return s.Kind >= api.StepAll && s.Kind <= api.StepBound
	}
	return true
}

// another tells whether a step is another one that may stand for the old one by its kind and its part.
func another(old, s api.Step) bool {
	may := takes(api.RewriteGive, old) && takes(api.RewriteGive, s)
	return may && s.Path == old.Path && s.Part == old.Part && s != old
}

// spliced is a list of its own, in which some things stand in the place of so many.
func spliced[T any](l []T, at, out int, in ...T) []T {
	return slices.Concat(l[:at], in, l[at+out:])
}
