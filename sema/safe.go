package sema

import (
	"slices"

	"lattice/api"
	"lattice/syntax"
)

// mayBe tells whether layer 4 lets an expression be, but for how many literals a list of IN has: this layer has a bound of its own for these.
func mayBe(e api.Expr) bool { return syntax.CheckExpr(brief(e)) == api.OK }

// brief is an expression whose lists of IN have no more Kids than layer 4 lets them have.
func brief(e api.Expr) api.Expr {
	e.Kids = slices.Clone(e.Kids)
	for i, k := range e.Kids {
		e.Kids[i] = brief(k)
	}
	if e.Kind == api.ExprBin && e.Name == "IN" && len(e.Kids) == 2 && e.Kids[1].Kind == api.ExprList {
		list := &e.Kids[1]
		list.Kids = list.Kids[:min(len(list.Kids), api.MaxItems)]
	}
	return e
}

// sure is what Truth tells.
func (s *scope) sure(e api.Expr) bool { return mayBe(e) && s.truth(e) }

// safe tells whether an expression that may be can't go wrong. A text that is too great would, when it is worked out.
func (s *scope) safe(e api.Expr) bool {
	switch e.Kind {
	case api.ExprLiteral:
		return len(e.Value.Text) <= api.MaxText
	case api.ExprParam:
		return true
	case api.ExprVar:
		_, there := s.kinds[e.Name]
		return there
	case api.ExprProp:
		kind := s.kindOf(e.Kids[0])
		return kind == api.VarNode || kind == api.VarRel
	}
	return s.truth(e)
}

// truth tells whether an expression that may be can't go wrong, and is a truth or nothing.
func (s *scope) truth(e api.Expr) bool {
	switch e.Kind {
	case api.ExprLiteral:
		return e.Value.Kind == api.ValueNull || e.Value.Kind == api.ValueBool
	case api.ExprIsNull, api.ExprNotNull:
		return s.safe(e.Kids[0])
	case api.ExprLabel:
		return s.kindOf(e.Kids[0]) == api.VarNode
	case api.ExprNot:
		return s.truth(e.Kids[0])
	case api.ExprBin:
		return s.joined(e.Name, e.Kids[0], e.Kids[1])
	}
	return false
}

// joined is truth of two that an operator joins.
func (s *scope) joined(operator string, a, b api.Expr) bool {
	switch operator {
	case "AND", "OR", "XOR":
		return s.truth(a) && s.truth(b)
	case "IN":
		return s.safe(a) && literals(b)
	case "=", "<>", "<", "<=", ">", ">=", "STARTS", "ENDS", "CONTAINS":
		return s.safe(a) && s.safe(b)
	}
	return false
}

// literals tells whether an expression is a list of literals alone, and not too great a value.
func literals(e api.Expr) bool {
	if e.Kind != api.ExprList || len(e.Kids) > api.MaxRows {
		return false
	}
	room := api.MaxText
	for _, k := range e.Kids {
		room -= len(k.Value.Text)
		if k.Kind != api.ExprLiteral || syntax.CheckExpr(k) != api.OK || room < 0 {
			return false
		}
	}
	return true
}
