package plan

import (
	"slices"

	"lattice/api"
	"lattice/sema"
)

// draft is a plan in the making: what its steps so far have given and asked.
type draft struct {
	paths []path
	known map[string]struct{} // the columns, and the Vars of parts that are given
	early [][]string          // the variables that the conditions use which need not wait for all parts
	asked []bool              // of all conditions
	left  int                 // how many parts are not given, how many conditions not asked
	needs map[api.StepKind]need
}

// path is the parts of a path.
type path struct{ nodes, rels []part }

// part is a node's or a relationship's part: what steps may name of it, and whether it is given.
type part struct {
	name         string
	labels, keys []string // rising, each once
	given        bool
}

// behind is the draft that has these steps. It gives up with a clause that may not be asked, and with a step that may not stand where it stands.
func behind(c api.Clause, vars []api.Var, steps ...api.Step) *draft {
	all, no := sema.Clause(c, vars...)
	if no != api.OK || c.Kind != api.ClauseMatch {
		panic(api.ErrArg)
	}
	d := &draft{known: map[string]struct{}{}, needs: needs()}
	for _, v := range vars {
		d.know(v.Name)
	}
	for _, p := range c.Paths {
		d.paths = append(d.paths, pathOf(p))
		d.left += len(p.Nodes) + len(p.Rels)
	}
	if c.HasWhere {
		d.ask(c.Where, all)
	}
	for _, s := range steps {
		d.do(s)
	}
	return d
}

// ask notes the conditions that are to be asked.
func (d *draft) ask(where api.Expr, vars []api.Var) {
	l := sema.Parts(where)
	for _, e := range l[:sema.Leading(where, vars...)] {
		d.early = append(d.early, sema.Uses(e))
	}
	d.asked = make([]bool, len(l))
	d.left += len(l)
}

func pathOf(p api.Path) path {
	var out path
	for _, n := range p.Nodes {
		x := part{name: n.Var, labels: risen(n.Labels)}
		if n.Has {
			x.keys = risen(n.Props.Keys)
		}
		out.nodes = append(out.nodes, x)
	}
	for _, r := range p.Rels {
		out.rels = append(out.rels, part{name: r.Var})
	}
	return out
}

// risen are names, rising, each once.
func risen(l []string) []string {
	return slices.Compact(slices.Sorted(slices.Values(l)))
}

func within(risen []string, name string) bool {
	_, is := slices.BinarySearch(risen, name)
	return is
}

// know notes a name. A part without a Var is never known, though a column's name may be empty too.
func (d *draft) know(name string) {
	if name != "" {
		d.known[name] = struct{}{}
	}
}

func (d *draft) knows(name string) bool {
	_, is := d.known[name]
	return is
}

// open is the node's part that a step names; nil, if there is none, or it is given already.
func (d *draft) open(s api.Step) *part {
	if s.Path < 0 || s.Path >= len(d.paths) {
		return nil
	}
	return opened(d.paths[s.Path].nodes, s.Part)
}

func opened(l []part, at int) *part {
	if at < 0 || at >= len(l) || l[at].given {
		return nil
	}
	return &l[at]
}

// reached tells whether the relationship that a step names is not given yet, but the part at its near end is.
func (d *draft) reached(s api.Step) bool {
	if s.Path < 0 || s.Path >= len(d.paths) {
		return false
	}
	p := d.paths[s.Path]
	near, _ := ends(s)
	return opened(p.rels, s.Part) != nil && p.nodes[near].given
}

// ends are the numbers of the nodes' parts at a relationship's near end, and at its other one.
func ends(s api.Step) (near, far int) {
	if s.Back {
		return s.Part + 1, s.Part
	}
	return s.Part, s.Part + 1
}

// due tells whether a condition may be asked now.
func (d *draft) due(cond int) bool {
	if cond < 0 || cond >= len(d.asked) || d.asked[cond] {
		return false
	}
	if cond < len(d.early) {
		return !slices.ContainsFunc(d.early[cond], func(name string) bool { return !d.knows(name) })
	}
	// Only those from this one on are left: for all parts, all early ones and those ahead of it must be done.
	return d.left == len(d.asked)-cond
}

// do puts a step to the plan.
func (d *draft) do(s api.Step) {
	if !d.may(s) {
		panic(api.ErrPlan)
	}
	switch s.Kind {
	case api.StepWhere:
		d.asked[s.Cond] = true
		d.left--
	case api.StepRel:
		p := d.paths[s.Path]
		_, far := ends(s)
		d.give(&p.rels[s.Part])
		d.give(&p.nodes[far])
	default:
		d.give(d.open(s))
	}
}

// give notes that a part is given. One at a relationship's other end may have been given ahead.
func (d *draft) give(p *part) {
	if !p.given {
		p.given = true
		d.know(p.name)
		d.left--
	}
}

// whole tells whether all is given and asked.
func (d *draft) whole() bool { return d.left == 0 }
