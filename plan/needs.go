package plan

import "lattice/api"

// need tells whether a step has what its kind needs, behind those that a draft has.
type need func(*draft, api.Step) bool

func needs() map[api.StepKind]need {
	all := func(d *draft, s api.Step) bool {
		n := d.open(s)
		return n != nil && !d.knows(n.name)
	}
	label := func(d *draft, s api.Step) bool { return all(d, s) && within(d.open(s).labels, s.Label) }
	return map[api.StepKind]need{
		api.StepAll:   all,
		api.StepLabel: label,
		api.StepSeek:  func(d *draft, s api.Step) bool { return label(d, s) && within(d.open(s).keys, s.Key) },
		api.StepBound: func(d *draft, s api.Step) bool {
			n := d.open(s)
			return n != nil && d.knows(n.name)
		},
		api.StepRel:   func(d *draft, s api.Step) bool { return d.reached(s) },
		api.StepWhere: func(d *draft, s api.Step) bool { return d.due(s.Cond) },
	}
}

// may tells whether a step may stand next.
func (d *draft) may(s api.Step) bool {
	has, there := d.needs[s.Kind]
	return there && s == used(s) && has(d, s)
}

// used is a step with that alone which its kind uses.
func used(s api.Step) api.Step {
	u := api.Step{Kind: s.Kind, Path: s.Path, Part: s.Part}
	switch s.Kind {
	case api.StepSeek:
		u.Key = s.Key
		fallthrough
	case api.StepLabel:
		u.Label = s.Label
	case api.StepRel:
		u.Back = s.Back
	case api.StepWhere:
		u = api.Step{Kind: s.Kind, Cond: s.Cond}
	}
	return u
}
