package rewrite

import (
	"iter"
	"slices"

	"lattice/api"
	"lattice/plan"
)

// rewrites goes over all that apply, in order.
func (p *scheme) rewrites() iter.Seq[api.Rewrite] {
	return func(yield func(api.Rewrite) bool) {
		rooms := p.rooms()
		for kind := range api.RewriteSplit + 1 {
			for at := range p.steps {
				for _, s := range p.named(kind, at, rooms) {
					if !yield(api.Rewrite{Kind: kind, At: at, Step: s}) {
						return
					}
				}
			}
		}
	}
}

// named are the Steps that rewrites of a kind have which apply at a place: of a kind that uses none, the zero one. At a plan's end none applies, as all parts are given there.
func (p *scheme) named(kind api.RewriteKind, at int, rooms map[spot]room) []api.Step {
	switch kind {
	case api.RewriteGive:
		return p.gives(at)
	case api.RewriteSplit:
		return p.choices(at, func(s api.Step) bool { return takes(kind, s) && rooms[spot{s.Path, s.Part}].has(at) })
	}
	if p.applies(api.Rewrite{Kind: kind, At: at}) {
		return make([]api.Step, 1)
	}
	return nil
}

// gives are the Steps of the rewrites that apply at a place and give its part by another step. Whichever step gives a part, all behind it may stand as they stand: so it is asked of this place alone.
func (p *scheme) gives(at int) []api.Step {
	old := p.steps[at]
	if !takes(api.RewriteGive, old) {
		return nil
	}
	return p.choices(at, func(s api.Step) bool { return another(old, s) })
}

// choices are the steps of some sort that may stand at a place behind those ahead of it, in order.
func (p *scheme) choices(at int, are func(api.Step) bool) []api.Step {
	l, _ := plan.Choices(p.clause, p.vars, p.steps[:at]...)
	return slices.DeleteFunc(l, func(s api.Step) bool { return !are(s) })
}

// spot is a node's part.
type spot struct{ path, part int }

// room is places, from one on, ahead of an end.
type room struct{ from, end int }

func (r room) has(at int) bool { return r.from <= at && at < r.end }

// rooms are, for each node's part, the places where a step that gives it may be put in, as far as the steps behind that place say. They are known without a try, as there may be a great many: up to the StepRel that gives the part, and behind all steps that may only stand where its Var is not known. What may stand there behind the steps ahead, the choices tell.
func (p *scheme) rooms() map[spot]room {
	rooms, named := map[spot]room{}, map[string]int{}
	for i, s := range p.steps {
		at := spot{s.Path, s.Part}
		switch s.Kind {
		case api.StepWhere:
		case api.StepRel:
			if !s.Back {
				at.part++
			}
			if _, given := rooms[at]; !given {
				rooms[at] = room{named[p.nameOf(at)], i + 1}
			}
		default:
			rooms[at] = room{}
			if name := p.nameOf(at); name != "" && s.Kind != api.StepBound {
				named[name] = i + 1
			}
		}
	}
	return rooms
}

func (p *scheme) nameOf(at spot) string { return p.clause.Paths[at.path].Nodes[at.part].Var }
