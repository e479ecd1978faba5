package syntax

import (
	"math"

	"lattice/api"
	"lattice/value"
	"lattice/words"
)

// Levels of expressions that have more than operators between two of the next level.
const (
	levelNot  = 3
	levelTest = 4
)

// operators are those of each level, the level that binds loosest first.
func operators() [7][]string {
	return [7][]string{
		{"OR"},
		{"XOR"},
		{"AND"},
		levelNot:  {},
		levelTest: {"=", "<>", "<", "<=", ">", ">=", "IN", "STARTS", "ENDS", "CONTAINS"},
		5:         {"+", "-"},
		6:         {"*", "/", "%"},
	}
}

// tree is an expression, and how deep it is nested.
type tree struct {
	api.Expr
	deep int
}

// grow puts Kids into an expression. One that is nested too deep is not kept: it will be refused at its end, and long rows of operators would take much room.
func grow(e api.Expr, kids ...tree) tree {
	deep := 1
	for _, k := range kids {
		deep = max(deep, k.deep+1)
	}
	if deep > api.MaxDepth {
		return tree{deep: deep}
	}
	for _, k := range kids {
		e.Kids = append(e.Kids, k.Expr)
	}
	return tree{e, deep}
}

// leaf is a value as an expression.
func leaf(v api.Value) tree { return grow(api.Expr{Kind: api.ExprLiteral, Value: v}) }

// expr reads an expression that is in no other one.
func (p *parser) expr() api.Expr { return p.whole(p.loosest) }

// whole asks how deep an expression is nested when all of it is read.
func (p *parser) whole(thing func() tree) api.Expr {
	at := p.place()
	t := thing()
	if t.deep > api.MaxDepth {
		panic(fault{at, api.ErrDeep})
	}
	return t.Expr
}

// begins tells whether an expression may begin with the next word.
func (p *parser) begins() bool {
	w := p.word()
	switch w.Kind {
	case api.WordNumber:
		return w.Number <= math.MaxInt64
	case api.WordSign:
		return p.isSign("(") || p.isSign("[") || p.isSign("{") || p.isSign("$") || p.isSign("-")
	case api.WordName:
		_, there := p.oneOf("NULL", "TRUE", "FALSE", "CASE", "NOT")
		return there || p.isName()
	}
	return w.Kind == api.WordText || w.Kind == api.WordQuoted
}

// oneOf tells which of some signs and keywords stands next.
func (p *parser) oneOf(l ...string) (string, bool) {
	for _, s := range l {
		if p.isSign(s) || p.isKeyword(s) {
			return s, true
		}
	}
	return "", false
}

// opens passes the word that opens a thing.
func (p *parser) opens() {
	if p.open == api.MaxOpen {
		p.refuse(api.ErrDeep)
	}
	p.open++
	p.pass()
}

// closes passes the sign at the end of a thing.
func (p *parser) closes(sign string) {
	p.needSign(sign)
	p.open--
}

func (p *parser) loosest() tree { return p.level(0) }

// level reads an expression of a level.
func (p *parser) level(n int) tree {
	switch {
	case n == len(p.levels):
		return p.signed()
	case n == levelNot && p.isKeyword("NOT"):
		return p.prefixed(api.ExprNot, func() tree { return p.level(levelNot) })
	}
	t := p.level(n + 1)
	for {
		operator, there := p.oneOf(p.levels[n]...)
		switch {
		case there:
			t = p.joined(operator, t, n+1)
		case n == levelTest && p.takeKeyword("IS"):
			t = p.isNull(t)
		case n == levelTest && p.takeSign(":"):
			t = grow(api.Expr{Kind: api.ExprLabel, Name: p.needAny()}, t)
		default:
			return t
		}
	}
}

// joined goes on behind the first of two that an operator joins.
func (p *parser) joined(operator string, first tree, level int) tree {
	p.pass()
	if operator == "STARTS" || operator == "ENDS" {
		p.needKeyword("WITH")
	}
	return grow(api.Expr{Kind: api.ExprBin, Name: operator}, first, p.level(level))
}

// isNull goes on behind IS.
func (p *parser) isNull(t tree) tree {
	kind := api.ExprIsNull
	if p.takeKeyword("NOT") {
		kind = api.ExprNotNull
	}
	p.needKeyword("NULL")
	return grow(api.Expr{Kind: kind}, t)
}

// prefixed reads what begins with NOT or a sign's -, and is open till the thing behind it is read.
func (p *parser) prefixed(kind api.ExprKind, thing func() tree) tree {
	p.opens()
	t := thing()
	p.open--
	return grow(api.Expr{Kind: kind}, t)
}

// signed leaves a - to the number that it stands ahead of.
func (p *parser) signed() tree {
	if p.isSign("-") && p.ahead(1).Kind != api.WordNumber {
		return p.prefixed(api.ExprNeg, p.signed)
	}
	return p.part()
}

func (p *parser) part() tree {
	t := p.atom()
	for {
		switch {
		case p.takeSign("."):
			t = grow(api.Expr{Kind: api.ExprProp, Name: p.needAny()}, t)
		case p.isSign("["):
			p.opens()
			at := p.loosest()
			p.closes("]")
			t = grow(api.Expr{Kind: api.ExprIndex}, t, at)
		default:
			return t
		}
	}
}

func (p *parser) atom() tree {
	if !p.begins() {
		p.wrong()
	}
	w := p.word()
	switch w.Kind {
	case api.WordNumber:
		p.pass()
		return leaf(value.Int(int64(w.Number)))
	case api.WordText:
		p.pass()
		return leaf(value.String(w.Text))
	case api.WordSign:
		return p.enclosed(w.Text)
	}
	switch keyword, _ := p.oneOf("NULL", "TRUE", "FALSE", "CASE"); keyword {
	case "NULL":
		p.pass()
		return leaf(value.Null())
	case "TRUE", "FALSE":
		p.pass()
		return leaf(value.Bool(keyword == "TRUE"))
	case "CASE":
		return p.cases()
	}
	return p.named()
}

// enclosed reads what a sign begins.
func (p *parser) enclosed(sign string) tree {
	switch sign {
	case "[":
		p.opens()
		kids := p.kids("]")
		p.closes("]")
		return grow(api.Expr{Kind: api.ExprList}, kids...)
	case "{":
		return p.mapping()
	case "(":
		p.opens()
		t := p.loosest()
		p.closes(")")
		return t
	}
	p.pass()
	if sign == "$" {
		return grow(api.Expr{Kind: api.ExprParam, Name: p.needAny()})
	}
	// A - comes here only ahead of a number, whose least one has no opposite of 64 bits.
	n := p.word().Number
	p.pass()
	return leaf(value.Int(int64(-n)))
}

// kids reads expressions up to a sign, at which there may be none.
func (p *parser) kids(end string) []tree {
	var l []tree
	if !p.isSign(end) {
		p.row(",", p.begins, func() { l = append(l, p.loosest()) })
	}
	return l
}

func (p *parser) mapping() tree {
	e := api.Expr{Kind: api.ExprMap}
	stood := map[string]struct{}{}
	fresh := func() bool {
		_, again := stood[p.word().Text]
		return p.isAny() && !again
	}
	var kids []tree
	p.opens()
	if !p.isSign("}") {
		p.row(",", fresh, func() {
			key := p.need(fresh())
			stood[key] = struct{}{}
			e.Keys = append(e.Keys, key)
			p.needSign(":")
			kids = append(kids, p.loosest())
		})
	}
	p.closes("}")
	return grow(e, kids...)
}

// named reads a variable or a call.
func (p *parser) named() tree {
	count := words.Is(p.word(), "COUNT")
	name := p.needName()
	if !p.isSign("(") {
		return grow(api.Expr{Kind: api.ExprVar, Name: name})
	}
	p.opens()
	if count && p.takeSign("*") {
		p.closes(")")
		return grow(api.Expr{Kind: api.ExprCount})
	}
	e := api.Expr{Kind: api.ExprCall, Name: name, Distinct: p.takeKeyword("DISTINCT")}
	var kids []tree
	if e.Distinct || !p.isSign(")") {
		p.row(",", p.begins, func() { kids = append(kids, p.loosest()) })
	}
	p.closes(")")
	return grow(e, kids...)
}

func (p *parser) cases() tree {
	var kids []tree
	p.opens()
	begins := func() bool { return p.isKeyword("WHEN") }
	for n := 0; n == 0 || begins(); n++ {
		p.room(n, begins)
		p.needKeyword("WHEN")
		kids = append(kids, p.loosest())
		p.needKeyword("THEN")
		kids = append(kids, p.loosest())
	}
	last := leaf(value.Null())
	if p.takeKeyword("ELSE") {
		last = p.loosest()
	}
	p.needKeyword("END")
	p.open--
	return grow(api.Expr{Kind: api.ExprCase}, append(kids, last)...)
}
