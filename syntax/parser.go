package syntax

import (
	"strings"

	"lattice/api"
)

// parser reads queries.
type parser struct {
	source
	levels [7][]string
	open   int // how many things are open in the expression that is under way
}

// read lets a parser read all of a text; it gives up by a panic wherever a word may not stand.
func read(text string, what func(*parser)) (f fault) {
	defer func() {
		r := recover()
		if g, ok := r.(fault); ok {
			f = g
		} else if r != nil {
			panic(r)
		}
	}()
	p := parser{source: sourceOf(text), levels: operators()}
	what(&p)
	p.ended()
	return fault{}
}

// beginnings tells how a clause goes on behind the keyword with which it begins.
func beginnings() map[string]func(*parser) api.Clause {
	return map[string]func(*parser) api.Clause{
		"OPTIONAL": (*parser).optional,
		"MATCH":    (*parser).match,
		"UNWIND":   (*parser).unwind,
		"WITH":     (*parser).with,
		"CREATE":   (*parser).create,
		"SET":      (*parser).set,
		"REMOVE":   (*parser).remove,
		"DETACH":   (*parser).detach,
		"DELETE":   (*parser).delete,
		"RETURN":   (*parser).returns,
	}
}

func (p *parser) query() api.Query {
	var q api.Query
	begin := beginnings()
	for {
		clause, there := begin[p.keyword()]
		switch {
		case !there && len(q.Clauses) > 0:
			return q
		case !there:
			p.wrong()
		case len(q.Clauses) == api.MaxClauses:
			p.refuse(api.ErrTooMany)
		}
		p.pass()
		q.Clauses = append(q.Clauses, clause(p))
	}
}

// keyword is the next word as keywords are written in the table of beginnings; nothing, if it can be none.
func (p *parser) keyword() string {
	if w := p.word(); w.Kind == api.WordName {
		return strings.ToUpper(w.Text)
	}
	return ""
}

// row reads one thing or several, with a sign between each two. What is no beginning of one more is left to be refused by its reading.
func (p *parser) row(between string, begins func() bool, thing func()) {
	for n := 0; ; n++ {
		p.room(n, begins)
		thing()
		if !p.takeSign(between) {
			return
		}
	}
}

// room needs that there is room for one more thing beside n, if one begins here.
func (p *parser) room(n int, begins func() bool) {
	if n >= api.MaxItems && begins() {
		p.refuse(api.ErrTooMany)
	}
}

func (p *parser) optional() api.Clause {
	p.needKeyword("MATCH")
	c := p.match()
	c.Optional = true
	return c
}

func (p *parser) match() api.Clause {
	c := api.Clause{Kind: api.ClauseMatch, Paths: p.paths()}
	c.HasWhere, c.Where = p.option("WHERE")
	return c
}

func (p *parser) unwind() api.Clause {
	c := api.Clause{Kind: api.ClauseUnwind, Expr: p.expr()}
	p.needKeyword("AS")
	c.As = p.needName()
	return c
}

func (p *parser) with() api.Clause {
	c := p.told(api.ClauseWith)
	c.HasWhere, c.Where = p.option("WHERE")
	return c
}

func (p *parser) returns() api.Clause { return p.told(api.ClauseReturn) }

func (p *parser) create() api.Clause {
	return api.Clause{Kind: api.ClauseCreate, Paths: p.paths()}
}

func (p *parser) set() api.Clause { return p.sets(api.ClauseSet) }

func (p *parser) remove() api.Clause { return p.sets(api.ClauseRemove) }

func (p *parser) detach() api.Clause {
	p.needKeyword("DELETE")
	c := p.delete()
	c.Detach = true
	return c
}

func (p *parser) delete() api.Clause {
	c := api.Clause{Kind: api.ClauseDelete}
	p.row(",", p.isName, func() { c.Vars = append(c.Vars, p.needName()) })
	return c
}

// option reads an expression, if the keyword that leads to it stands there.
func (p *parser) option(keyword string) (bool, api.Expr) {
	if !p.takeKeyword(keyword) {
		return false, api.Expr{}
	}
	return true, p.expr()
}

// told reads what WITH and RETURN have both.
func (p *parser) told(kind api.ClauseKind) api.Clause {
	c := api.Clause{Kind: kind, Distinct: p.takeKeyword("DISTINCT")}
	p.row(",", p.begins, func() { c.Items = append(c.Items, p.item()) })
	if p.takeKeyword("ORDER") {
		p.needKeyword("BY")
		p.row(",", p.begins, func() { c.Order = append(c.Order, p.sortKey()) })
	}
	c.HasSkip, c.Skip = p.option("SKIP")
	c.HasLimit, c.Limit = p.option("LIMIT")
	return c
}

func (p *parser) item() api.Item {
	i := api.Item{Expr: p.expr()}
	if p.takeKeyword("AS") {
		i.As = p.needName()
	}
	return i
}

func (p *parser) sortKey() api.SortKey {
	k := api.SortKey{Expr: p.expr()}
	if !p.takeKeyword("ASC") && !p.takeKeyword("ASCENDING") {
		k.Desc = p.takeKeyword("DESC") || p.takeKeyword("DESCENDING")
	}
	return k
}

func (p *parser) sets(kind api.ClauseKind) api.Clause {
	c := api.Clause{Kind: kind}
	p.row(",", p.isName, func() { c.Sets = append(c.Sets, p.setItem(kind)) })
	return c
}

// setItem reads what is set, or removed: there a property has no value.
func (p *parser) setItem(kind api.ClauseKind) api.SetItem {
	i := api.SetItem{Kind: api.SetLabel, Var: p.needName()}
	if p.takeSign(":") {
		i.Key = p.needAny()
		return i
	}
	p.needSign(".")
	i.Kind, i.Key = api.SetProp, p.needAny()
	if kind == api.ClauseSet {
		p.needSign("=")
		i.Value = p.expr()
	}
	return i
}

func (p *parser) paths() []api.Path {
	var l []api.Path
	p.row(",", func() bool { return p.isSign("(") }, func() { l = append(l, p.path()) })
	return l
}

func (p *parser) path() api.Path {
	l := api.Path{Nodes: []api.NodePat{p.node()}}
	begins := func() bool { return p.isSign("<") || p.isSign("-") }
	for begins() {
		p.room(len(l.Rels), begins)
		l.Rels = append(l.Rels, p.rel())
		l.Nodes = append(l.Nodes, p.node())
	}
	return l
}

func (p *parser) node() api.NodePat {
	var n api.NodePat
	p.needSign("(")
	n.Var = p.variable()
	for p.takeSign(":") {
		p.room(len(n.Labels), p.isAny)
		n.Labels = append(n.Labels, p.needAny())
	}
	n.Has, n.Props = p.props()
	p.needSign(")")
	return n
}

func (p *parser) rel() api.RelPat {
	var r api.RelPat
	if p.takeSign("<") {
		r.Dir = -1
	}
	p.needSign("-")
	if p.takeSign("[") {
		r.Var = p.variable()
		if p.takeSign(":") {
			p.row("|", p.isAny, func() { r.Types = append(r.Types, p.needAny()) })
		}
		r.Has, r.Props = p.props()
		p.needSign("]")
	}
	p.needSign("-")
	if r.Dir == 0 && p.takeSign(">") {
		r.Dir = 1
	}
	return r
}

// variable reads what a part of a pattern is called, if it has a name.
func (p *parser) variable() string {
	if p.isName() {
		return p.needName()
	}
	return ""
}

// props reads the map of a part of a pattern, if it has one: an expression that is in no other one.
func (p *parser) props() (bool, api.Expr) {
	if !p.isSign("{") {
		return false, api.Expr{}
	}
	return true, p.whole(p.mapping)
}
